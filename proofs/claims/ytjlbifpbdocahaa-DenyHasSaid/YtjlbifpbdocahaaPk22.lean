/- Part 22 of what the statement wants. -/
import Derived.Laws.NewBlocks
import Derived.Laws.Slices
import Derived.Deep.RegionWith
import Derived.Laws.Concat
import Derived.Deep.RegionHeld3
import Derived.Lib.AppendStr
import Derived.BigRegion
import Derived.Test.YtjlbifpbdocahaaPk01
import Derived.Test.YtjlbifpbdocahaaPk16
import Derived.Test.YtjlbifpbdocahaaPk17
import Derived.Test.YtjlbifpbdocahaaPk20
namespace Go.Proofs.Ytjlbifpbdocahaa
open Go.RowKit

theorem Makes.out {B A : Nat} {L : List Ent} {F : Nat → Prop} {w w' : World} {m : Int × List Ent} {r : Ending} (ha : ArenaAt B A L F w) (h : Makes B A F w m r w') :
    r = .returned (.int .i64 m.1) ∧ ∃ F', ArenaAt B A m.2 F' w' ∧ Below B w w' := by
  obtain ⟨h1, F', h2, h3, _⟩ := h
  have hs := ha.lt A ha.self
  exact ⟨h1, F', h2, h3.below (by omega) fun i hi => (ha.lt i hi).1⟩

theorem arena_ne {B A g : Nat} {L : List Ent} {F : Nat → Prop} {w : World} {t : TypeId} {cs : Array Value} (h : ArenaAt B A L F w) (hr : Holds w g t cs) (h1 : t ≠ 79) (h2 : t ≠ 108) : ¬ F g := by
  obtain ⟨mb, tv, e1, e2, e3, _, _, _, rfl⟩ := h
  rintro (rfl | rfl | hk)
  · unfold Holds at hr e1
    rw [hr] at e1
    injection e1 with e1
    injection e1 with _ e1
    exact h1 e1
  · unfold Holds at hr
    rw [hr] at e3
    injection e3 with e3
    cases e3
  · exact own_ne e2 hr (fun h => h2 h.symm) hk

theorem Left.moves {B A : Nat} {L : List Ent} {F : Nat → Prop} {w w' : World} (h : Left B A L F w w') : Moves F w w' := by
  obtain ⟨_, _, h, _⟩ := h
  exact h
end Go.Proofs.Ytjlbifpbdocahaa

namespace Go.Proofs.Ytjlbifpbdocahaa
open Go.RowKit

end Go.Proofs.Ytjlbifpbdocahaa

namespace Go.Proofs.Ytjlbifpbdocahaa
open Go.RowKit

end Go.Proofs.Ytjlbifpbdocahaa

namespace Go.Proofs.Ytjlbifpbdocahaa
open Go.RowKit

end Go.Proofs.Ytjlbifpbdocahaa

namespace Go.Proofs.Ytjlbifpbdocahaa
open Go.RowKit

def headL (sh : Shp) : List UInt8 := match sh.kind with
  | 1 => 241 :: cnt sh.s.data.toList
  | 2 => 242 :: (pack4 sh.a ++ pack4 sh.b)
  | 3 => 243 :: pack4 sh.a
  | 4 => [244]
  | 5 => 245 :: (cnt sh.s.data.toList ++ pack4 sh.args.length)
  | 6 => 246 :: cnt sh.s.data.toList
  | 7 => [247]
  | 8 => [248, UInt8.ofNat sh.b]
  | 9 => 249 :: pack4 sh.b
  | 10 => 250 :: pack4 sh.args.length
  | _ => []
theorem cnt_length (s : ByteArray) : (cnt s.data.toList).length = 4 + s.size := by
  have : s.data.toList.length = s.size := by rw [Array.length_toList]; rfl
  simp [cnt, pack4]; omega

end Go.Proofs.Ytjlbifpbdocahaa

namespace Go.Proofs.Ytjlbifpbdocahaa
open Go.RowKit

end Go.Proofs.Ytjlbifpbdocahaa

namespace Go.Proofs.Ytjlbifpbdocahaa
open Go.RowKit

end Go.Proofs.Ytjlbifpbdocahaa

namespace Go.Proofs.Ytjlbifpbdocahaa
open Go.RowKit

def encStep (acc : List (List UInt8)) (e : Ent) : List (List UInt8) := acc ++ [headL e.sh ++ (e.sh.args.map fun t => acc.getD t []).flatten]
/-- The encodings of the terms L, in their order. -/
def encs (L : List Ent) : List (List UInt8) := L.foldl encStep []
def enc (L : List Ent) (t : Nat) : List UInt8 := (encs L).getD t []

theorem encs_more : ∀ (M : List Ent) (acc : List (List UInt8)), ∃ r, M.foldl encStep acc = acc ++ r ∧ r.length = M.length
  | [], acc => ⟨[], by simp, rfl⟩
  | e :: M, acc => by
    obtain ⟨r, h1, h2⟩ := encs_more M (encStep acc e)
    refine ⟨(headL e.sh ++ (e.sh.args.map fun t => acc.getD t []).flatten) :: r, ?_, by simp [h2]⟩
    rw [List.foldl_cons, h1, encStep, List.append_assoc]
    rfl
theorem encs_length (L : List Ent) : (encs L).length = L.length := by
  obtain ⟨r, h1, h2⟩ := encs_more L []
  unfold encs
  rw [h1]
  simpa using h2
theorem enc_append (L M : List Ent) (t : Nat) (ht : t < L.length) : enc (L ++ M) t = enc L t := by
  obtain ⟨r, h1, _⟩ := encs_more M (encs L)
  have e : encs (L ++ M) = encs L ++ r := by
    unfold encs at h1 ⊢
    rw [List.foldl_append, h1]
  unfold enc
  rw [e, List.getD_eq_getElem?_getD, List.getD_eq_getElem?_getD, List.getElem?_append_left (by rw [encs_length]; exact ht)]
theorem enc_snoc (L : List Ent) (e : Ent) (_h : ∀ t ∈ e.sh.args, t < L.length) : enc (L ++ [e]) L.length = headL e.sh ++ (e.sh.args.map (enc L)).flatten := by
  have e1 : encs (L ++ [e]) = encStep (encs L) e := by unfold encs; rw [List.foldl_append]; rfl
  unfold enc
  rw [e1, encStep, List.getD_eq_getElem?_getD, List.getElem?_append_right (by rw [encs_length]; exact Nat.le_refl _), encs_length, Nat.sub_self]
  rfl
/-- What a term's encoding is. -/
theorem enc_eq {L : List Ent} {n : Nat} {e : Ent} (he : L[n]? = some e) (ha : ∀ t ∈ e.sh.args, t < n) : enc L n = headL e.sh ++ (e.sh.args.map (enc L)).flatten := by
  have hn := (List.getElem?_eq_some_iff.1 he).1
  have hge := (List.getElem?_eq_some_iff.1 he).2
  have hlt : (L.take n).length = n := by rw [List.length_take]; omega
  have hsp : L = L.take n ++ [e] ++ L.drop (n + 1) := by
    rw [List.append_assoc]
    conv => lhs; rw [← List.take_append_drop n L]
    rw [List.drop_eq_getElem_cons hn, hge]
    rfl
  have h1 : enc L n = enc (L.take n ++ [e]) n := by
    conv => lhs; rw [hsp]
    exact enc_append _ _ _ (by simp; omega)
  have h2 : ∀ t, t < n → enc L t = enc (L.take n) t := fun t ht => by
    conv => lhs; rw [hsp, List.append_assoc]
    exact enc_append _ _ _ (by omega)
  rw [h1]
  have h3 := enc_snoc (L.take n) e (by rw [hlt]; exact ha)
  rw [hlt] at h3
  rw [h3]
  congr 2
  exact List.map_congr_left fun t ht => (h2 t (ha t ht)).symm
end Go.Proofs.Ytjlbifpbdocahaa

namespace Go.Proofs.Ytjlbifpbdocahaa
open Go.RowKit

end Go.Proofs.Ytjlbifpbdocahaa

namespace Go.Proofs.Ytjlbifpbdocahaa
open Go.RowKit

/-- Block k is a row of bytes. -/
def isByte (w : World) (k : Nat) : Prop := ∃ cs fr, w.heap[k]? = some (.cells cs 5 fr)
/-- Nothing old turned but block bo, and rows of bytes from X on. -/
def BM (X bo : Nat) (w w' : World) : Prop := Moves (fun k => k = bo ∨ (X ≤ k ∧ isByte w k)) w w'
theorem BM.trans {X bo : Nat} {a b c : World} (h : BM X bo a b) (k : BM X bo b c) : BM X bo a c := Moves.trans h k fun i hi => by
  by_cases hs : i = bo ∨ X ≤ i ∧ isByte a i
  · exact .inl hs
  · right
    rcases Nat.lt_or_ge i a.heap.size with hlt | hge
    · have hb := Moves.block h i hlt hs
      rcases hi with rfl | ⟨h1, cs, fr, h2⟩
      · exact absurd (.inl rfl) hs
      · exact absurd (.inr ⟨h1, cs, fr, hb.symm.trans h2⟩) hs
    · exact hge
theorem BM.of {X bo : Nat} {w w' : World} (h : Moves nobody w w') : BM X bo w w' := h.mono fun _ h _ => h.elim
theorem BM.holds {X bo g : Nat} {t : TypeId} {cs : Array Value} {w w' : World} (m : BM X bo w w') (h : Holds w g t cs) (hg : g ≠ bo) (ht : t ≠ 5) : Holds w' g t cs :=
  Holds.moves h m (by
    rintro (e | ⟨_, c, fr, h2⟩)
    · exact hg e
    · unfold Holds at h
      rw [h] at h2
      injection h2 with h2
      injection h2 with _ h3
      exact ht h3)
theorem BM.row {X bo base n size : Nat} {t : TypeId} {v : Value} {xs : List Value} {w w' : World} (m : BM X bo w w') (h : w.ownsRow base t size v n xs) (hv : v.ownBlock ≠ some bo) (ht : t ≠ 5) : w'.ownsRow base t size v n xs :=
  owns_moves h m fun k hk => by
    rintro (e | ⟨_, c, fr, h2⟩)
    · exact hv (e ▸ hk)
    · rcases h.2 with ⟨rfl, _⟩ | ⟨g, cap, cur, rfl, _, hg, _⟩
      · simp [Value.ownBlock] at hk
      · have : g = k := by simpa [Value.ownBlock] using hk
        subst this
        rw [hg] at h2
        injection h2 with h2
        injection h2 with _ h3
        exact ht h3
theorem BM.arena {X bo B A : Nat} {L : List Ent} {F : Nat → Prop} {w w' : World} (m : BM X bo w w') (h : ArenaAt B A L F w) (hF : ∀ k, F k → k < X) (hbo : X ≤ bo) : ArenaAt B A L F w' :=
  h.moves m fun k hk => by
    have := hF k hk
    rintro (e | ⟨h1, _⟩)
    · omega
    · omega
theorem BM.append {X bo n : Nat} {v : Value} {xs : List Value} {w w' : World} (hown : w.ownsRow X 5 1 v n xs) (hg : w.grownBy w' v.ownBlock) : BM X bo w w' :=
  ((Moves.refl (fun k => k = bo ∨ (X ≤ k ∧ isByte w k)) w).grown hg fun k hk => by
    left; right
    rcases hown.2 with ⟨rfl, _⟩ | ⟨g, cap, cur, rfl, hb, hg, _⟩
    · simp [Value.ownBlock] at hk
    · have : g = k := by simpa [Value.ownBlock] using hk
      subst this
      exact ⟨hb, cur, _, hg⟩)
end Go.Proofs.Ytjlbifpbdocahaa

namespace Go.Proofs.Ytjlbifpbdocahaa
open Go.RowKit

theorem headL_length {L : List Ent} {sh : Shp} (h : GoodSh L sh) : (headL sh).length = ownOf sh.kind + sh.s.size := by
  have h0 : (noStr : ByteArray).size = 0 := rfl
  have hc : ∀ s : ByteArray, (cnt s.data.toList).length = 4 + s.size := cnt_length
  cases h <;> simp [headL, ownOf, hc, pack4, h0] <;> omega

theorem enc_length {L : List Ent} (h : Good L) (n : Nat) : ∀ e, L[n]? = some e → (enc L n).length = e.size := by
  induction n using Nat.strongRecOn with
  | ind n ih =>
  intro e he
  have hok := h.wf.ok n e he
  rw [enc_eq he hok.args, List.length_append, headL_length (h.sh n e he), h.size n e he]
  congr 1
  rw [List.length_flatten, List.map_map]
  unfold sumN
  congr 1
  refine List.map_congr_left fun t ht => ?_
  have htn := hok.args t ht
  have hn := (List.getElem?_eq_some_iff.1 he).1
  have hx : L[t]? = some L[t] := List.getElem?_eq_getElem (by omega)
  simp only [Function.comp, ih t htn L[t] hx, sizeN, hx, Option.map_some, Option.getD_some]
end Go.Proofs.Ytjlbifpbdocahaa

namespace Go.Proofs.Ytjlbifpbdocahaa
open Go.RowKit

theorem pack4_app {a b : Nat} {x y : List UInt8} (ha : a < 4294967296) (hb : b < 4294967296) (h : pack4 a ++ x = pack4 b ++ y) : a = b ∧ x = y := by
  obtain ⟨h1, h2⟩ := List.append_inj h rfl
  have := congrArg num4 h1
  rw [num4_pack a ha, num4_pack b hb] at this
  exact ⟨this, h2⟩
theorem cnt_app {s t : ByteArray} {x y : List UInt8} (hs : s.size < 4294967296) (ht : t.size < 4294967296) (h : cnt s.data.toList ++ x = cnt t.data.toList ++ y) : s = t ∧ x = y := by
  have e1 : s.data.toList.length = s.size := by rw [Array.length_toList]; rfl
  have e2 : t.data.toList.length = t.size := by rw [Array.length_toList]; rfl
  unfold cnt at h
  rw [List.append_assoc, List.append_assoc] at h
  obtain ⟨h1, h2⟩ := pack4_app (by omega) (by omega) h
  obtain ⟨h3, h4⟩ := List.append_inj h2 h1
  refine ⟨?_, h4⟩
  rw [← bs_list s, ← bs_list t, h3]

theorem head_apart {L : List Ent} {p q : Shp} {n m : Nat} {x y : List UInt8} (hp : GoodSh L p) (hq : GoodSh L q) (hp' : p.Ok n) (hq' : q.Ok m) (h : headL p ++ x = headL q ++ y) :
    p.kind = q.kind ∧ p.a = q.a ∧ p.b = q.b ∧ p.s = q.s ∧ p.args.length = q.args.length ∧ x = y := by
  have s1 := hp'.s
  have s2 := hq'.s
  cases hp <;> cases hq <;> simp [headL] at h s1 s2 ⊢
  · obtain ⟨rfl, rfl⟩ := cnt_app (by omega) (by omega) h
    exact ⟨rfl, rfl⟩
  · obtain ⟨e1, h2⟩ := pack4_app (by omega) (by omega) h
    obtain ⟨e2, e3⟩ := pack4_app (by omega) (by omega) h2
    exact ⟨e1, e2, e3⟩
  · obtain ⟨rfl, rfl⟩ := pack4_app (by omega) (by omega) h
    exact ⟨rfl, rfl⟩
  · exact h
  · obtain ⟨e1, h2⟩ := cnt_app (by omega) (by omega) h
    obtain ⟨e2, e3⟩ := pack4_app (by omega) (by omega) h2
    exact ⟨e1, e2, e3⟩
  · obtain ⟨rfl, rfl⟩ := cnt_app (by omega) (by omega) h
    exact ⟨rfl, rfl⟩
  · exact h
  · rename_i c _ _ _ hc _ _ _ c' _ _ _ hc' _ _ _
    obtain ⟨h1, rfl⟩ := h
    have := congrArg UInt8.toNat h1
    rw [UInt8.toNat_ofNat', UInt8.toNat_ofNat'] at this
    exact ⟨by omega, rfl⟩
  · obtain ⟨rfl, rfl⟩ := pack4_app (by omega) (by omega) h
    exact ⟨rfl, rfl⟩
  · obtain ⟨h1, rfl⟩ := pack4_app (by omega) (by omega) h
    exact ⟨h1, rfl⟩

theorem args_apart {L : List Ent} {i : Nat} (ih : ∀ t, t < i → ∀ j x y, t < L.length → j < L.length → enc L t ++ x = enc L j ++ y → t = j ∧ x = y) :
    ∀ (l l' : List Nat) (x y : List UInt8), (∀ t ∈ l, t < i ∧ t < L.length) → (∀ t ∈ l', t < L.length) → l.length = l'.length → (l.map (enc L)).flatten ++ x = (l'.map (enc L)).flatten ++ y → l = l' ∧ x = y
  | [], [], x, y, _, _, _, h => ⟨rfl, by simpa using h⟩
  | t :: l, j :: l', x, y, h1, h2, h3, h => by
    simp only [List.map_cons, List.flatten_cons, List.append_assoc] at h
    obtain ⟨e1, h4⟩ := ih t (h1 t (by simp)).1 j _ _ (h1 t (by simp)).2 (h2 j (by simp)) h
    obtain ⟨e2, e3⟩ := args_apart ih l l' x y (fun u hu => h1 u (by simp [hu])) (fun u hu => h2 u (by simp [hu])) (by simpa using h3) h4
    exact ⟨by rw [e1, e2], e3⟩

theorem enc_apart {L : List Ent} (h : Good L) (i : Nat) : ∀ j x y, i < L.length → j < L.length → enc L i ++ x = enc L j ++ y → i = j ∧ x = y := by
  induction i using Nat.strongRecOn with
  | ind i ih =>
  intro j x y hi hj he
  have hi' : L[i]? = some L[i] := List.getElem?_eq_getElem hi
  have hj' : L[j]? = some L[j] := List.getElem?_eq_getElem hj
  have oki := h.wf.ok i _ hi'
  have okj := h.wf.ok j _ hj'
  rw [enc_eq hi' oki.args, enc_eq hj' okj.args, List.append_assoc, List.append_assoc] at he
  obtain ⟨h1, h2, h3, h4, h5, h6⟩ := head_apart (h.sh i _ hi') (h.sh j _ hj') oki okj he
  obtain ⟨h7, h8⟩ := args_apart ih _ _ _ _ (fun t ht => ⟨oki.args t ht, by have := oki.args t ht; omega⟩) (fun t ht => by have := okj.args t ht; omega) h5 h6
  refine ⟨?_, h8⟩
  have hsh : L[i].sh = L[j].sh := by
    revert h1 h2 h3 h4 h7
    obtain ⟨⟨k, a, b, s, l⟩, z⟩ := L[i]
    obtain ⟨⟨k', a', b', s', l'⟩, z'⟩ := L[j]
    rintro rfl rfl rfl rfl rfl
    rfl
  have hnd := h.wf.apart
  have hp := List.pairwise_iff_getElem.1 hnd
  rcases Nat.lt_trichotomy i j with hlt | heq | hlt
  · exact absurd (by rw [List.getElem_map, List.getElem_map]; exact hsh) (hp i j (by simpa using hi) (by simpa using hj) hlt)
  · exact heq
  · exact absurd (by rw [List.getElem_map, List.getElem_map]; exact hsh.symm) (hp j i (by simpa using hj) (by simpa using hi) hlt)
end Go.Proofs.Ytjlbifpbdocahaa
