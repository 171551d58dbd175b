/- Part 36 of what the statement wants. -/
import Derived.BigQuiet
import Derived.Deep.RegionHeld3
import Derived.Test.YtkigohenfaomkaaGreatPk05
import Derived.Test.YtkigohenfaomkaaGreatPk21
import Derived.Test.YtkigohenfaomkaaGreatPk28
import Derived.Test.YtkigohenfaomkaaGreatPk35
namespace Go.Proofs.YtkigohenfaomkaaGreat
open Go.RowKit

def atT (l : List (List UInt8)) (i : Int) : List UInt8 := if 0 ≤ i ∧ i < l.length then l.getD i.toNat [] else []
def openT (p q : List UInt8) : List UInt8 := if kindL p = 9 then (if (nodeOf p).args.getD 0 [] = q then (nodeOf p).args.getD 1 [] else []) else []
def deriveT (s x y z : List UInt8) : List UInt8 := match s with
  | [] => []
  | ch :: _ => refDeriveL ch x y z
def moreT (made : List (List UInt8)) (o : OpR) : List UInt8 :=
  if o.kind = 9 then deriveT o.s (atT made o.a) (atT made o.b) (atT made o.c)
  else if o.kind = 10 then (if o.c < 0 ∨ 4294967295 < o.c then [] else refSealL (atT made o.a) o.c.toNat (atT made o.b))
  else if o.kind = 11 then openT (atT made o.a) (atT made o.b)
  else if o.kind = 13 then (if kindL (atT made o.a) = 10 then refListL ((nodeOf (atT made o.a)).args ++ [atT made o.b]) else [])
  else if o.kind = 14 then (if kindL (atT made o.a) = 10 then atT (nodeOf (atT made o.a)).args o.b else [])
  else []
def stepT (known sent made : List (List UInt8)) (o : OpR) : List UInt8 :=
  if o.kind = 0 then refDataL o.s
  else if o.kind = 1 then refNonceL 0 o.a
  else if o.kind = 2 then atT known o.a
  else if o.kind = 3 then atT sent o.a
  else if o.kind = 4 then refBaseL o.s
  else if o.kind = 5 then refExpL (atT made o.a) (atT made o.b)
  else if o.kind = 6 then refPubL (atT made o.a)
  else if o.kind = 7 then refSignL o.s (atT made o.a) (atT made o.b)
  else if o.kind = 8 then refHashL (atT made o.a)
  else if o.kind = 12 then refListL []
  else moreT made o
def runT (known sent : List (List UInt8)) (l : List OpR) : List (List UInt8) := l.foldl (fun made o => made ++ [stepT known sent made o]) []
theorem runT_snoc (known sent : List (List UInt8)) (l : List OpR) (o : OpR) : runT known sent (l ++ [o]) = runT known sent l ++ [stepT known sent (runT known sent l) o] := by simp [runT, List.foldl_append]
theorem runT_acc (known sent : List (List UInt8)) : ∀ (l : List OpR) (acc : List (List UInt8)), (l.foldl (fun made o => made ++ [stepT known sent made o]) acc).length = acc.length + l.length
  | [], acc => by simp
  | o :: l, acc => by
    rw [List.foldl_cons, runT_acc known sent l]
    simp
    omega
theorem runT_len (known sent : List (List UInt8)) (l : List OpR) : (runT known sent l).length = l.length := by
  unfold runT
  rw [runT_acc]
  simp

theorem rpPre {L M : List Ent} (hG : Good M) (hp : L <+: M) {l : List Int} {ts : List (List UInt8)} (h : TAts L l ts) : TAts M l ts := by
  induction h with
  | nil => exact .nil
  | cons h k ih => exact .cons (h.pre hG hp) ih
theorem rpSnoc {L : List Ent} {i : Int} {t : List UInt8} (ht : TAt L i t) {l : List Int} {ts : List (List UInt8)} (h : TAts L l ts) : TAts L (l ++ [i]) (ts ++ [t]) := by
  induction h with
  | nil => exact .cons ht .nil
  | cons h k ih => exact .cons h ih
theorem rpGetD {L : List Ent} {l : List Int} {ts : List (List UInt8)} (h : TAts L l ts) : ∀ k : Nat, TAt L (l.getD k (-1)) (ts.getD k []) := by
  induction h with
  | nil => intro k; exact .inl ⟨by simp, by simp⟩
  | cons h _ ih =>
    intro k
    cases k with
    | zero => simpa using h
    | succ k => simpa using ih k
theorem rpAt {L : List Ent} {l : List Int} {ts : List (List UInt8)} (h : TAts L l ts) (i : Int) : TAt L (atZ l i) (atT ts i) := by
  unfold atZ atT
  rw [← h.length]
  split
  · exact rpGetD h _
  · exact .inl ⟨rfl, rfl⟩
theorem rpArgs {L : List Ent} : ∀ d : List Nat, (∀ t ∈ d, t < L.length) → TAts L (d.map Int.ofNat) (d.map (enc L))
  | [], _ => .nil
  | t :: d, h => .cons (.inr ⟨t, rfl, h t (by simp), rfl⟩) (rpArgs d fun u hu => h u (by simp [hu]))
theorem Same.of {L : List Ent} (hG : Good L) {x : Int} {t : List UInt8} (h : TAt L x t) : Same L (x, L) t := ⟨hG, List.prefix_refl _, Nat.le_succ _, h, .inl rfl⟩
theorem rpSome {L : List Ent} (hG : Good L) {x : Int} {t : List UInt8} (h : TAt L x t) (hk : kindAt L x ≠ 0) : ∃ (n : Nat) (e : Ent), x = n ∧ L[n]? = some e ∧ (e.sh.kind : Int) = kindAt L x ∧ t = enc L n ∧ nodeOf t = nodeSh L e.sh ∧ ∀ u ∈ e.sh.args, u < L.length := by
  obtain ⟨n, rfl, hlt, hkn⟩ := kindAt_some hk
  have he := List.getElem?_eq_getElem hlt
  have hT : t = enc L n := by
    rcases h with ⟨h1, _⟩ | ⟨m, h1, _, h3⟩
    · omega
    · have : m = n := by omega
      subst this
      exact h3
  refine ⟨n, L[n], rfl, he, hkn.symm, hT, by rw [hT]; exact nodeOf_enc hG he, fun u hu => ?_⟩
  have := (hG.wf.ok n _ he).args u hu
  omega
theorem openSame {L : List Ent} (hG : Good L) {x y : Int} {p q : List UInt8} (hx : TAt L x p) (hy : TAt L y q) : TAt L (openM L x y) (openT p q) := by
  have hk := kind_tat hG hx
  unfold openM openT
  by_cases h9 : kindAt L x = 9
  · rw [if_pos h9, if_pos (by omega)]
    obtain ⟨n, e, rfl, he, hke, rfl, hno, hin⟩ := rpSome hG hx (by rw [h9]; decide)
    obtain ⟨a, b, hab⟩ := kind9_args hG he (by omega)
    rw [argsAt_some he, hab, hno]
    unfold nodeSh
    rw [hab]
    rw [hab] at hin
    have ha : TAt L (a : Int) (enc L a) := .inr ⟨a, rfl, hin a (by simp), rfl⟩
    have hb : TAt L (b : Int) (enc L b) := .inr ⟨b, rfl, hin b (by simp), rfl⟩
    show TAt L (if (a : Int) = y then (b : Int) else -1) (if enc L a = q then enc L b else [])
    by_cases h : (a : Int) = y
    · rw [if_pos h, if_pos ((ha.same hG hy).1 h)]; exact hb
    · rw [if_neg h, if_neg (fun h2 => h ((ha.same hG hy).2 h2))]; exact .inl ⟨rfl, rfl⟩
  · rw [if_neg h9, if_neg (by omega)]; exact .inl ⟨rfl, rfl⟩
theorem listSame {L : List Ent} (hG : Good L) {x : Int} {p : List UInt8} (hx : TAt L x p) (hk : kindAt L x = 10) : TAts L ((argsAt L x).map Int.ofNat) (nodeOf p).args := by
  obtain ⟨n, e, rfl, he, hke, rfl, hno, hin⟩ := rpSome hG hx (by rw [hk]; decide)
  rw [argsAt_some he, hno]
  exact rpArgs e.sh.args hin

theorem moreSame {L : List Ent} {had : Int} {known sent rs : List Int} {o : OpR} {m : Int × List Ent} {mt : List (List UInt8)} (hG : Good L) (hlen : L.length < 1073741824) (h : ResTo L had known sent rs o m) (hr : TAts L rs mt) (hk : o.kind < 0 ∨ 8 < o.kind) (h12 : o.kind ≠ 12) : Same L m (moreT mt o) := by
  unfold moreT
  by_cases k9 : o.kind = 9
  · rw [ResTo.k9 k9] at h; subst h
    rw [if_pos k9]
    unfold deriveO deriveT
    cases o.s with
    | nil => exact Same.none hG
    | cons ch r => exact derive_same hG hlen ch (rpAt hr _) (rpAt hr _) (rpAt hr _)
  by_cases k10 : o.kind = 10
  · rw [ResTo.k10 k10] at h; subst h
    rw [if_neg k9, if_pos k10]
    unfold sealO
    split
    · exact Same.none hG
    · exact seal_same hG hlen _ (by omega) (rpAt hr _) (rpAt hr _)
  by_cases k11 : o.kind = 11
  · rw [ResTo.k11 k11] at h; subst h
    rw [if_neg k9, if_neg k10, if_pos k11]
    exact Same.of hG (openSame hG (rpAt hr _) (rpAt hr _))
  by_cases k13 : o.kind = 13
  · rw [ResTo.k13 k13] at h; subst h
    rw [if_neg k9, if_neg k10, if_neg k11, if_pos k13]
    have hkk := kind_tat hG (rpAt hr o.a)
    unfold addM
    by_cases hk10 : kindAt L (atZ rs o.a) = 10
    · rw [if_pos hk10, if_pos (by omega)]
      exact list_same hG hlen (rpSnoc (rpAt hr _) (listSame hG (rpAt hr _) hk10))
    · rw [if_neg hk10, if_neg (by omega)]; exact Same.none hG
  by_cases k14 : o.kind = 14
  · rw [ResTo.k14 k14] at h; subst h
    rw [if_neg k9, if_neg k10, if_neg k11, if_neg k13, if_pos k14]
    have hkk := kind_tat hG (rpAt hr o.a)
    unfold elemM
    by_cases hk10 : kindAt L (atZ rs o.a) = 10
    · rw [if_pos hk10, if_pos (by omega)]
      exact Same.of hG (rpAt (listSame hG (rpAt hr _) hk10) _)
    · rw [if_neg hk10, if_neg (by omega)]; exact Same.none hG
  rw [ResTo.more (by omega)] at h
  subst h
  rw [if_neg k9, if_neg k10, if_neg k11, if_neg k13, if_neg k14]
  exact Same.none hG
theorem givenSame {L : List Ent} {had : Int} {l : List Int} {ts : List (List UInt8)} (h : TAts L l ts) (hh : ∀ x ∈ l, x < had) (i : Int) : TAt L (givenZ had l i) (atT ts i) := by
  have ha := rpAt h i
  unfold givenZ
  split
  · rename_i hc
    rcases ha with ⟨_, h2⟩ | ⟨n, h1, h2, h3⟩
    · exact .inl ⟨rfl, h2⟩
    · exfalso
      have hin : atZ l i < had := by
        unfold atZ at h1 hc ⊢
        split
        · rename_i hi
          have hlt : i.toNat < l.length := by omega
          rw [List.getD_eq_getElem?_getD, List.getElem?_eq_getElem hlt]
          exact hh _ (List.getElem_mem hlt)
        · rename_i hi
          rw [if_neg hi] at h1
          omega
      omega
  · exact ha
theorem stepSame {L : List Ent} {had : Int} {known sent rs : List Int} {o : OpR} {m : Int × List Ent} {kt st mt : List (List UInt8)} (hG : Good L) (hlen : L.length < 1073741824) (h : ResTo L had known sent rs o m) (hr : TAts L rs mt)
    (hk : TAts L known kt) (hkh : ∀ x ∈ known, x < had) (hs : TAts L sent st) (hsh : ∀ x ∈ sent, x < had) : Same L m (stepT kt st mt o) := by
  unfold stepT
  by_cases k0 : o.kind = 0
  · rw [ResTo.k0 k0] at h; subst h; rw [if_pos k0]; exact data_same hG hlen _
  by_cases k1 : o.kind = 1
  · rw [ResTo.k1 k1] at h; subst h; rw [if_neg k0, if_pos k1]; exact nonce_same hG hlen _ _
  by_cases k2 : o.kind = 2
  · rw [ResTo.k2 k2] at h; subst h; rw [if_neg k0, if_neg k1, if_pos k2]; exact Same.of hG (givenSame hk hkh _)
  by_cases k3 : o.kind = 3
  · rw [ResTo.k3 k3] at h; subst h; rw [if_neg k0, if_neg k1, if_neg k2, if_pos k3]; exact Same.of hG (givenSame hs hsh _)
  by_cases k4 : o.kind = 4
  · rw [ResTo.k4 k4] at h; subst h; rw [if_neg k0, if_neg k1, if_neg k2, if_neg k3, if_pos k4]; exact base_same hG hlen _
  by_cases k5 : o.kind = 5
  · rw [ResTo.k5 k5] at h; rw [if_neg k0, if_neg k1, if_neg k2, if_neg k3, if_neg k4, if_pos k5]; exact exp_same L _ _ _ _ m hG hlen (rpAt hr _) (rpAt hr _) h
  by_cases k6 : o.kind = 6
  · rw [ResTo.k6 k6] at h; subst h; rw [if_neg k0, if_neg k1, if_neg k2, if_neg k3, if_neg k4, if_neg k5, if_pos k6]; exact pub_same hG hlen (rpAt hr _)
  by_cases k7 : o.kind = 7
  · rw [ResTo.k7 k7] at h; subst h; rw [if_neg k0, if_neg k1, if_neg k2, if_neg k3, if_neg k4, if_neg k5, if_neg k6, if_pos k7]; exact sign_same hG hlen _ (rpAt hr _) (rpAt hr _)
  by_cases k8 : o.kind = 8
  · rw [ResTo.k8 k8] at h; subst h; rw [if_neg k0, if_neg k1, if_neg k2, if_neg k3, if_neg k4, if_neg k5, if_neg k6, if_neg k7, if_pos k8]; exact hash_same hG hlen (rpAt hr _)
  by_cases k12 : o.kind = 12
  · rw [ResTo.k12 k12] at h; subst h; rw [if_neg k0, if_neg k1, if_neg k2, if_neg k3, if_neg k4, if_neg k5, if_neg k6, if_neg k7, if_neg k8, if_pos k12]; exact list_same hG hlen .nil
  rw [if_neg k0, if_neg k1, if_neg k2, if_neg k3, if_neg k4, if_neg k5, if_neg k6, if_neg k7, if_neg k8, if_neg k12]
  exact moreSame hG hlen h hr (by omega) k12
theorem StepsTo.same {L0 : List Ent} {had : Int} {known sent : List Int} {kt st : List (List UInt8)} (hG : Good L0) (hk : TAts L0 known kt) (hkh : ∀ x ∈ known, x < had) (hs : TAts L0 sent st) (hsh : ∀ x ∈ sent, x < had)
    {xs : List OpR} {L : List Ent} {rs : List Int} (h : StepsTo L0 had known sent xs L rs) (hlen : L0.length + xs.length < 1073741824) : TAts L rs (runT kt st xs) := by
  induction h with
  | nil => exact .nil
  | snoc h k ih =>
    simp only [List.length_append, List.length_cons, List.length_nil] at hlen
    have ih := ih (by omega)
    have g := h.grown hG (by omega)
    have hs := stepSame g.good (by have := g.len; omega) k ih (rpPre g.good g.pre hk) hkh (rpPre g.good g.pre hs) hsh
    rw [runT_snoc]
    exact rpSnoc hs.is (rpPre hs.good hs.pre ih)
end Go.Proofs.YtkigohenfaomkaaGreat

namespace Go.Proofs.YtkigohenfaomkaaGreat
open Go.RowKit


theorem rnode_row (w : World) : Holds (w.alloc (.cells #[.int .i64 0, .int .i64 0, .int .i64 0, .string ⟨#[]⟩, .slice none 0 0] 107)) w.heap.size 107 #[.int .i64 0, .int .i64 0, .int .i64 0, .string ⟨#[]⟩, .slice none 0 0] := Holds.new w _ _
end Go.Proofs.YtkigohenfaomkaaGreat

namespace Go.Proofs.YtkigohenfaomkaaGreat
open Go.RowKit

end Go.Proofs.YtkigohenfaomkaaGreat

namespace Go.Proofs.YtkigohenfaomkaaGreat
open Go.RowKit

set_option maxRecDepth 100000 in
theorem refView_own (d : List UInt8) (hd : d.length ≤ 1000000) (w : World) : Calls Tryz.prog 78 #[.string (bs d)] w fun e w' => ∃ v, e = .returned (rnodeV (nodeOf d) v) ∧ TextsO w.heap.size w' v ((nodeOf d).args.map bs) ∧ Below w.heap.size w w' := by
  have HP : Hid (∀ W : World, Calls Tryz.prog 76 #[.string (bs d), .int .i64 0] W fun e w' => ∃ (ao : Option Addr) (nn cap : Nat) (en : Int) (ok : Bool), e = .returned (.tuple #[.agg #[.int .i64 (nodeOf d).k, .int .i64 ((nodeOf d).a : Int), .int .i64 ((nodeOf d).b : Int), .string (bs (nodeOf d).s), .slice ao nn cap], .int .i64 en, .bool ok]) ∧ TextsO W.heap.size w' (.slice ao nn cap) ((nodeOf d).args.map bs) ∧ Below W.heap.size W w') := fun W =>
    (Parse_own d hd W).mono fun e w' ⟨v, h1, h2, h3⟩ => by
      obtain ⟨ao, cap, rfl, hc⟩ := id h2.1
      exact ⟨ao, _, cap, _, _, h1, h2, h3⟩
  have HN := Lib.hid (rnode_row w)
  have HB : Hid (Below w.heap.size w (w.alloc (.cells #[.int .i64 0, .int .i64 0, .int .i64 0, .string ⟨#[]⟩, .slice none 0 0] 107))) := (Below.refl _ _).alloc (Nat.le_refl _) _
  generalize nodeOf d = nd at *
  obtain ⟨xk, xa, xb, xs, l⟩ := nd
  unfold rnodeV
  simp only at *
  generalize bs xs = S at *
  generalize (xa : Int) = a at *
  generalize (xb : Int) = b at *
  go_enter Tryz.func78, Tryz.ntmps78
  go_wp2_with (go_at_call 76; with_reducible refine (HP.out _).mono ?_; rintro e w1 ⟨ao, nn, cap, en, ok, rfl, hT, b1⟩; have hN1 := Holds.moves HN.out (Moves.ofBelow (S := nobody) b1) (fun h => h); have hB := HB.out.trans (b1.mono HB.out.size); clear HN HB b1; have hN := Holds.moves hN1 ((Moves.refl nobody w1).alloc (.cells #[.int .i64 xk, .int .i64 a, .int .i64 b, .string S, .slice ao nn cap] 107)) (fun h => h); have c0 := hN.cell 0; have c1 := hN.cell 1; have c2 := hN.cell 2; have c3 := hN.cell 3; have c4 := hN.cell 4; have f0 := hN.frozen 0; have f1 := hN.frozen 1; have f2 := hN.frozen 2; have f3 := hN.frozen 3; have f4 := hN.frozen 4)
  have hNf := Holds.set (Holds.set (Holds.set (Holds.set (Holds.set hN 0 (.int .i64 xk)) 1 (.int .i64 a)) 2 (.int .i64 b)) 3 (.string S)) 4 (.slice ao nn cap)
  have ma : Moves (fun i => i = w.heap.size) w1 (w1.alloc (.cells #[.int .i64 xk, .int .i64 a, .int .i64 b, .string S, .slice ao nn cap] 107)) := (Moves.refl _ w1).alloc _
  have mf := ((((ma.setCell (p := ⟨w.heap.size, 0, none⟩) (.inl rfl) (.int .i64 xk)).setCell (p := ⟨w.heap.size, 1, none⟩) (.inl rfl) (.int .i64 a)).setCell (p := ⟨w.heap.size, 2, none⟩) (.inl rfl) (.int .i64 b)).setCell (p := ⟨w.heap.size, 3, none⟩) (.inl rfl) (.string S)).setCell (p := ⟨w.heap.size, 4, none⟩) (.inl rfl) (.slice ao nn cap)
  refine bodyPost_ret (v := .agg #[.int .i64 xk, .int .i64 a, .int .i64 b, .string S, .slice ao nn cap]) ?_ rfl ⟨_, rfl, ?_, ?_⟩
  · exact results_cell_row rfl _ _ w.heap.size _ _ (0, 0) _ rfl hNf Tryz.underlying107 rfl (by kernel_rfl)
  · obtain ⟨hT1, B, hB1, hown⟩ := hT
    have hB2 : w.heap.size + 1 ≤ B := by simpa using hB1
    have hne : ∀ k, Value.ownBlock (.slice ao nn cap) = some k → k ≠ w.heap.size := fun k hk => by have := (hown.lt k hk).1; omega
    refine ⟨?_, B, by omega, owns_moves hown mf fun k hk e => hne k hk e⟩
    exact hT1.keep mf.size fun b' off c i hv hb => mf.cell (p := ⟨b', i, none⟩) hb (fun e => hne b' (by rw [hv]; rfl) e)
  · exact hB.trans (mf.below hB.size (fun i hi => by omega))

end Go.Proofs.YtkigohenfaomkaaGreat
