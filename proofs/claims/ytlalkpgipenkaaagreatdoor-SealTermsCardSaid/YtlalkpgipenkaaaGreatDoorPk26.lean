/- Part 26 of what the statement wants. -/
import Derived.Laws.Rows
import Derived.IntWalk
import Derived.Test.YtlalkpgipenkaaaGreatDoorPk03
import Derived.Test.YtlalkpgipenkaaaGreatDoorPk21
import Derived.Test.YtlalkpgipenkaaaGreatDoorPk23
import Derived.Test.YtlalkpgipenkaaaGreatDoorPk24
import Derived.Test.YtlalkpgipenkaaaGreatDoorPk25
namespace Go.Proofs.YtlalkpgipenkaaaGreatDoor
open Go.RowKit

/-- So many strings, one behind the other. -/
def textsP : Nat → List UInt8 → Int → List (List UInt8) × List UInt8 × Int
  | 0, r, e => ([], r, e)
  | n + 1, r, e => ((countedP anyR r e).1 :: (textsP n (countedP anyR r e).2.1 (countedP anyR r e).2.2).1, (textsP n (countedP anyR r e).2.1 (countedP anyR r e).2.2).2)
theorem textsP_snoc : ∀ (n : Nat) (r : List UInt8) (e : Int), textsP (n + 1) r e = ((textsP n r e).1 ++ [(countedP anyR (textsP n r e).2.1 (textsP n r e).2.2).1], (countedP anyR (textsP n r e).2.1 (textsP n r e).2.2).2)
  | 0, r, e => rfl
  | n + 1, r, e => by
    have ih := textsP_snoc n (countedP anyR r e).2.1 (countedP anyR r e).2.2
    rw [textsP, ih]
    rfl
theorem textsP_len : ∀ (n : Nat) (r : List UInt8) (e : Int), (textsP n r e).1.length = n
  | 0, _, _ => rfl
  | n + 1, r, e => by
    show (textsP n _ _).1.length + 1 = n + 1
    rw [textsP_len n]
theorem countedP_rest (right : List UInt8 → Bool) (r : List UInt8) (e : Int) : (countedP right r e).2.1.length ≤ r.length := by
  unfold countedP
  simp only
  split
  · exact Nat.le_trans (fixedP_rest _ _ _ _) (fixedP_rest _ _ _ _)
  · exact Nat.le_refl _
theorem textsP_rest : ∀ (n : Nat) (r : List UInt8) (e : Int), (textsP n r e).2.1.length ≤ r.length
  | 0, _, _ => Nat.le_refl _
  | n + 1, r, e => Nat.le_trans (textsP_rest n _ _) (countedP_rest anyR r e)
theorem textsP_word : ∀ (n : Nat) (r : List UInt8) (e : Int), ∀ x ∈ (textsP n r e).1, x.length ≤ r.length
  | 0, _, _, x, hx => by cases hx
  | n + 1, r, e, x, hx => by
    rcases List.mem_cons.1 hx with hx | hx
    · rw [hx]; exact countedP_word _ _ _
    · exact Nat.le_trans (textsP_word n _ _ x hx) (countedP_rest anyR r e)
theorem rdOwn_moves {S : Nat → Prop} {w w' : World} {B : Nat} {e : TypeId} {size n : Nat} {v : Value} {xs : List Value} (h : w.ownsRow B e size v n xs) (m : Moves S w w') (hS : ∀ k, v.ownBlock = some k → ¬ S k) : w'.ownsRow B e size v n xs := by
  refine ⟨h.1, ?_⟩
  rcases h.2 with hn | ⟨g, cap, cur, rfl, hb, hg, rest⟩
  · exact .inl hn
  · exact .inr ⟨g, cap, cur, rfl, hb, (m.block g (Array.getElem?_eq_some_iff.1 hg).1 (hS g rfl)).trans hg, rest⟩
theorem rdOwn_ne {w : World} {B : Nat} {e t : TypeId} {size n g : Nat} {v : Value} {xs : List Value} {cs : Array Value} (h : w.ownsRow B e size v n xs) (hg : Holds w g t cs) (hne : e ≠ t) : ¬ v.ownBlock = some g := by
  intro he
  rcases h.2 with ⟨rfl, _⟩ | ⟨g', cap, cur, rfl, _, hh, _⟩
  · simp [Value.ownBlock] at he
  · have : g' = g := by simpa [Value.ownBlock] using he
    subst this
    unfold Holds at hg
    rw [hh] at hg
    injection hg with hg
    injection hg with _ h2
    exact hne h2
theorem TextsAt.moves {S : Nat → Prop} {w w' : World} {v : Value} {l : List ByteArray} (h : TextsAt w v l) (m : Moves S w w') (hS : ∀ g, v.ownBlock = some g → ¬ S g) : TextsAt w' v l := by
  obtain ⟨ao, cap, rfl, hc⟩ := h
  refine ⟨ao, cap, rfl, fun hne => ?_⟩
  obtain ⟨b, off, rfl, hb, hk⟩ := hc hne
  exact ⟨b, off, rfl, Nat.lt_of_lt_of_le hb m.size, fun k x hx => (m.cell (p := ⟨b, off + k, none⟩) hb (hS b rfl)).trans (hk k x hx)⟩
def extsQ (rest : List UInt8) : Int × List (List UInt8) × List UInt8 × Int :=
  if 8 < (u32Q rest 0).1 then (2, [], (u32Q rest 0).2) else (0, textsP (2 * (u32Q rest 0).1) (u32Q rest 0).2.1 (u32Q rest 0).2.2)

set_option maxRecDepth 100000 in
theorem rExts_any {w : World} {R : Nat} {rest : List UInt8} (h : WAt w R rest 0) (hr : rest.length ≤ 40000) :
    Calls Tryz.prog 155 #[.pointer (some ⟨R, 0, none⟩)] w fun e w' => ∃ ao cap, e = .returned (.tuple #[.slice ao (extsQ rest).2.1.length cap, .int .i64 (extsQ rest).1]) ∧ TextsAt w' (.slice ao (extsQ rest).2.1.length cap) ((extsQ rest).2.1.map bs) ∧ (extsQ rest).2.1.length ≤ cap ∧ WAt w' R (extsQ rest).2.2.1 (extsQ rest).2.2.2 ∧ Moves (fun k => k = R) w w' ∧ (∀ g, (Value.slice ao (extsQ rest).2.1.length cap).ownBlock = some g → w.heap.size ≤ g) := by
  have HU := Lib.hid (rU32_any h (by omega))
  have HT := Lib.hid (fun (W : World) (r : List UInt8) (e : Int) (h : WAt W R r e) (hr : r.length ≤ 40000) => rText_any h (by omega))
  have hlen : (u32Q rest 0).2.1.length ≤ 40000 := Nat.le_trans (fixedP_rest _ _ _ _) hr
  have HE : Hid (extsQ rest = if 8 < (u32Q rest 0).1 then (2, [], (u32Q rest 0).2) else (0, textsP (2 * (u32Q rest 0).1) (u32Q rest 0).2.1 (u32Q rest 0).2.2)) := rfl
  obtain ⟨i0, hi, hz0, hz1, hz2⟩ := info_parts infoStr
  generalize u32Q rest 0 = p at *
  obtain ⟨n, r, e⟩ := p
  simp only at HU HE hlen
  by_cases hn : 8 < n
  · have HE2 : Hid (extsQ rest = (2, [], r, e)) := by show _ = _; rw [HE.out, if_pos hn]
    have q : (n : Int) > 8 := by omega
    clear HE HT
    go_enter Tryz.func155, Tryz.ntmps155
    go_wp2_with (go_at_call 133; refine HU.out.mono ?_; rintro e w1 ⟨rfl, h1, m1⟩)
    go_ret2
    rw [HE2.out]
    exact ⟨none, 0, rfl, TextsAt.nil _, Nat.le_refl _, h1, m1, fun g hg => by simp [Value.ownBlock] at hg⟩
  · have HE2 : Hid (extsQ rest = (0, textsP (2 * n) r e)) := by show _ = _; rw [HE.out, if_neg hn]
    have q : ¬ (n : Int) > 8 := by omega
    clear HE
    go_enter Tryz.func155, Tryz.ntmps155
    go_wp2_with (go_at_call 133; refine HU.out.mono ?_; rintro e w1 ⟨rfl, h1, m1⟩)
    have HM1 := Lib.hid m1
    have hR := h1.lt
    have HN := Lib.hid hn
    have hRw := h.lt
    have HLn := Lib.hid hlen
    clear hlen hn
    go_loopw [5, 12] (fun v i wr => ∃ (k : Nat) (u : Value), u = v ∧ k ≤ 2 * n ∧ i = .int .u32 k ∧ wr.ownsRow w.heap.size 9 1 u k (strs ((textsP k r e).1.map bs)) ∧ (k = 0 → u = .slice none 0 0) ∧ WAt wr R (textsP k r e).2.1 (textsP k r e).2.2 ∧ Moves (fun k => k = R) w wr) (fun _ i _ => 2 * n - (intOf i).toNat)
    case atStart => exact ⟨0, _, rfl, Nat.zero_le _, rfl, World.ownsRow_nil _ _ _ _, fun _ => rfl, h1, HM1.out⟩
    case round =>
      clear h1 m1
      obtain ⟨k, v, hv0, hk, rfl, hown, hnil, hat, hm⟩ := hrel
      subst hv0
      have hn2 : n ≤ 8 := by have := HN.out; omega
      by_cases hlt : k < 2 * n
      · have hsn := textsP_snoc k r e
        have hrl : (textsP k r e).2.1.length ≤ 40000 := Nat.le_trans (textsP_rest k r e) HLn.out
        have HTk := Lib.hid (HT.out wr _ _ hat hrl)
        have HS : Hid (strs ((textsP (k + 1) r e).1.map bs) = strs ((textsP k r e).1.map bs) ++ [.string (bs (countedP anyR (textsP k r e).2.1 (textsP k r e).2.2).1)] ∧ (textsP (k + 1) r e).2 = (countedP anyR (textsP k r e).2.1 (textsP k r e).2.2).2) := by
          refine ⟨?_, by rw [hsn]⟩
          rw [hsn, List.map_append, List.map_cons, List.map_nil, strs_snoc]
        have hne : ∀ g, v.ownBlock = some g → ¬ g = R := fun g hg hgR => rdOwn_ne hown hat (by decide) (by rw [hg, hgR])
        have HNe := Lib.hid hne
        have HMk := Lib.hid hm
        clear hsn hrl HT hat hm hne
        generalize countedP anyR (textsP k r e).2.1 (textsP k r e).2.2 = c at *
        obtain ⟨c1, c2⟩ := c
        simp only at HTk HS
        obtain ⟨t2, hT2⟩ : ∃ t2, t2 = (textsP (k + 1) r e).2 := ⟨_, rfl⟩
        obtain ⟨S2, hS2⟩ : ∃ S2, S2 = strs ((textsP (k + 1) r e).1.map bs) := ⟨_, rfl⟩
        rw [← hT2, ← hS2] at HS
        have HT2 := Lib.hid hT2
        have HS2 := Lib.hid hS2
        clear hT2 hS2
        generalize hS1 : strs ((textsP k r e).1.map bs) = S1 at *
        clear hS1
        generalize bs c1 = C at *
        go_wp2_with (first
          | (go_at_call 151
             with_reducible refine HTk.out.mono ?_
             rintro e' w2 ⟨rfl, h2, m2⟩
             have hown2 := rdOwn_moves hown m2 HNe.out
             have hW2 : w.heap.size ≤ w2.heap.size := Nat.le_trans HMk.out.size m2.size)
          | (at_builtin; refine wpList_append_own _ rfl (.tmp 14) (.tmp 17) 28 rfl w.heap.size 9 i0 (.string ⟨#[]⟩) 1 16 Tryz.underlying28 hi hz0 hz1 hz2 rfl (by decide) _ _ _ rfl (hown2.alloc _) ⟨w2.heap.size, 0, none⟩ 1 1 [.string C] rfl rfl (cell_one_new _ _ _) (str_one C) (by unfold maxLen; omega) (by omega) (by simp; omega) ?_; intro v' w3 hown3 hg3 _))
        have m' : Moves (fun k => v.ownBlock = some k) w2 w3 := ((Moves.refl _ w2).alloc _).grown hg3 fun k hk => .inl hk
        have h3 : WAt w3 R c2.1 c2.2 := Holds.moves h2 m' fun hh => HNe.out R hh rfl
        have m3 : Moves (fun k => k = R) w w3 := (HMk.out.trans m2 fun k hk => .inl hk).trans m' fun k hk => .inr (hown2.lt k hk).1
        have HO : Hid (w3.ownsRow w.heap.size 9 1 v' (k + 1) S2) := by
          show w3.ownsRow _ _ _ _ _ _
          rw [HS.out.1]
          exact hown3
        have H3 := Lib.hid h3
        have M3 := Lib.hid m3
        clear m' h3 m3 hown3 hg3 hown2 h2 m2 hown
        go_wp2_with fail
        go_roundw
        case rel => exact ⟨k + 1, v', rfl, by omega, by go_num, by rw [← HS2.out]; exact HO.out, fun h0 => by omega, by rw [← HT2.out, HS.out.2]; exact H3.out, M3.out⟩
        case measure => simp [intOf]; omega
      · have hkn : k = 2 * n := by omega
        subst hkn
        have HTx := Lib.hid (TextsAt.ofRow (l := (textsP (2 * n) r e).1.map bs) (by rw [List.length_map, textsP_len]; exact hown) (fun h0 => hnil (by have := congrArg List.length h0; rw [List.length_map, textsP_len] at this; simpa using this)))
        have HNw : Hid (∀ g, v.ownBlock = some g → w.heap.size ≤ g) := fun g hg => (hown.lt g hg).1
        have HC : Hid (∃ ao cap, v = .slice ao (2 * n) cap ∧ 2 * n ≤ cap) := by
          rcases hown.2 with ⟨hv, h0⟩ | ⟨g, cap, cur, hv, _, _, hcap, _⟩
          · exact ⟨none, 0, by rw [h0]; exact hv, by omega⟩
          · exact ⟨_, cap, hv, hcap⟩
        have HAt := Lib.hid hat
        have HMk := Lib.hid hm
        have HLn2 := Lib.hid (textsP_len (2 * n) r e)
        clear hlt hown hnil hat hm HT
        obtain ⟨ao, cap, rfl, hcap⟩ := HC.out
        go_wp2_with fail
        go_ret2
        rw [HE2.out]
        have hl := HLn2.out
        have htx := HTx.out
        have hnw := HNw.out
        refine ⟨ao, cap, ?_, ?_, ?_, HAt.out, HMk.out, fun g hg => hnw g (by rw [← hl]; exact hg)⟩
        · show _ = Ending.returned (.tuple #[.slice ao (textsP (2 * n) r e).1.length cap, .int .i64 0])
          rw [hl]; rfl
        · show TextsAt _ (.slice ao (textsP (2 * n) r e).1.length cap) ((textsP (2 * n) r e).1.map bs)
          rw [hl]; exact htx
        · show (textsP (2 * n) r e).1.length ≤ cap
          rw [hl]; exact hcap
end Go.Proofs.YtlalkpgipenkaaaGreatDoor

namespace Go.Proofs.YtlalkpgipenkaaaGreatDoor
open Go.RowKit

theorem rdResults {P : Program} {fn : Func} {p u : Tmp} {ty : TypeId} (h : fn.results = #[.cell p ty, .tmp u]) (tmps : Array Value) (w : World) (g : Nat) (t : TypeId) (cs : Array Value) (fr : Nat × Nat) (d : TypeDesc)
    (hp : tmps.getD p undef = .pointer (some ⟨g, 0, none⟩)) (hg : w.heap[g]? = some (.cells cs t fr))
    (hu : P.underlying ty = some d) (hd : (match d with | .struct _ | .array _ _ => true | _ => false) = true) (hi : (P.info? ty).map (·.size) = some cs.size) :
    (results fn tmps).run P w = .ok (.tuple #[.agg cs, tmps.getD u undef]) w := by
  have hp' : tmps[p]?.getD undef = .pointer (some ⟨g, 0, none⟩) := by simpa using hp
  simp [results, h, hp', asAddr, run_loadVar_row w g t ty cs fr d hg hu hd hi]

def orE (x y : Int) : Int := if x = 0 then y else x
set_option maxRecDepth 100000 in
theorem cmpOrE_any {w : World} {g : Nat} {t : TypeId} {x y : Int} (h : Holds w g t #[.int .i64 x, .int .i64 y]) :
    Calls Tryz.prog 156 #[.slice (some ⟨g, 0, none⟩) 2 2] w fun e w' => e = .returned (.int .i64 (orE x y)) ∧ w' = w := by
  have c0 := h.cell 0
  have c1 := h.cell 1
  by_cases hx : x = 0
  · subst hx
    have hr : Hid (orE 0 y = y) := if_pos rfl
    by_cases hy : y = 0
    · subst hy
      go_enter Tryz.func156, Tryz.ntmps156
      go_wp2
      refine wp_loop_rounds 3 ?_
      rw [rounds_succ]
      go_wp2
      rw [rounds_succ]
      go_wp2
      rw [rounds_succ]
      go_wp2
      go_ret
      exact ⟨by rw [hr.out]; rfl, rfl⟩
    · have hyb : (y != 0) = true := by simpa using hy
      go_enter Tryz.func156, Tryz.ntmps156
      go_wp2
      refine wp_loop_rounds 2 ?_
      rw [rounds_succ]
      go_wp2
      rw [rounds_succ]
      go_wp2
      go_ret
      exact ⟨by rw [hr.out]; rfl, rfl⟩
  · have hr : Hid (orE x y = x) := if_neg hx
    have hxb : (x != 0) = true := by simpa using hx
    go_enter Tryz.func156, Tryz.ntmps156
    go_wp2
    refine wp_loop_rounds 1 ?_
    rw [rounds_succ]
    go_wp2
    go_ret
    exact ⟨by rw [hr.out]; rfl, rfl⟩

/-- What reading a value leaves: the error, or the field and the reader behind it. -/
def ReadPost (R : Nat) (w : World) (er : Int) (x : FieldR) (rest : List UInt8) (e : Ending) (w' : World) : Prop :=
  Moves (fun k => k = R) w w' ∧ ((er ≠ 0 ∧ e = .returned (.tuple #[fieldV zeroF (.slice none 0 0), .int .i64 er])) ∨
    (er = 0 ∧ ∃ ao cap, e = .returned (.tuple #[fieldV x (.slice ao x.l.length cap), .int .i64 0]) ∧ x.l.length ≤ cap ∧ TextsAt w' (.slice ao x.l.length cap) (x.l.map bs) ∧ WAt w' R rest 0 ∧ ∀ g, (Value.slice ao x.l.length cap).ownBlock = some g → w.heap.size ≤ g))

theorem WAt.err {w : World} {R : Nat} {r : List UInt8} {e e' : Int} (h : WAt w R r e) (he : e = e') : WAt w R r e' := he ▸ h
theorem orE_zero {x y : Int} (h : orE x y = 0) : x = 0 ∧ y = 0 := by
  unfold orE at h
  split at h
  · exact ⟨by assumption, h⟩
  · exact absurd h (by assumption)

set_option maxRecDepth 100000 in
theorem read_u {w : World} {R : Nat} {rest : List UInt8} (h : WAt w R rest 0) (hr : rest.length ≤ 40000) :
    Calls Tryz.prog 127 #[.int .i32 117, .pointer (some ⟨R, 0, none⟩)] w (ReadPost R w (orE (u32Q rest 0).2.2 0) ⟨117, ((u32Q rest 0).1 : Int), [], []⟩ (u32Q rest 0).2.1) := by
  have HU : Hid (∀ W, Below w.heap.size w W → _) := fun (W : World) (hb : Below w.heap.size w W) => rU32_any (h.moves (Moves.ofBelow (S := nobody) hb) fun h => h) (show rest.length ≤ 1000000 by omega)
  have hp := u32Q_lt rest 0
  generalize u32Q rest 0 = p at *
  obtain ⟨n, r2, er⟩ := p
  simp only at *
  have hRl := h.lt
  have hD0 := ((Holds.new w 81 #[.int .u8 0, .int .i64 0, .string ⟨#[]⟩, .slice none 0 0])).moves ((Moves.refl nobody _).alloc (.cells #[.int .u8 117, .int .i64 0, .string ⟨#[]⟩, .slice none 0 0] 81)) (fun h => h)
  have hX0 := Holds.new (w.alloc (.cells #[.int .u8 0, .int .i64 0, .string ⟨#[]⟩, .slice none 0 0] 81)) 81 #[.int .u8 117, .int .i64 0, .string ⟨#[]⟩, .slice none 0 0]
  rw [World.size_alloc] at hX0
  have hm0 : Moves (fun k => k = R) w ((w.alloc (.cells #[.int .u8 0, .int .i64 0, .string ⟨#[]⟩, .slice none 0 0] 81)).alloc (.cells #[.int .u8 117, .int .i64 0, .string ⟨#[]⟩, .slice none 0 0] 81)) := ((Moves.refl (fun k => k = R) w).alloc _).alloc _
  have hb0 : Below w.heap.size w ((w.alloc (.cells #[.int .u8 0, .int .i64 0, .string ⟨#[]⟩, .slice none 0 0] 81)).alloc (.cells #[.int .u8 117, .int .i64 0, .string ⟨#[]⟩, .slice none 0 0] 81)) := ((Below.refl _ w).alloc (Nat.le_refl _) _).alloc (by simp) _
  have hs0 : ((w.alloc (.cells #[.int .u8 0, .int .i64 0, .string ⟨#[]⟩, .slice none 0 0] 81)).alloc (.cells #[.int .u8 117, .int .i64 0, .string ⟨#[]⟩, .slice none 0 0] 81)).heap.size = w.heap.size + 2 := by simp
  have HD0 := Lib.hid hD0
  have HX0 := Lib.hid hX0
  have HM0 := Lib.hid hm0
  have HUc := Lib.hid (HU.out _ hb0)
  have HB0 := Lib.hid hb0
  have HS0 := Lib.hid hs0
  clear hD0 hX0 hm0 hb0 hs0 HU h
  go_enter Tryz.func127, Tryz.ntmps127
  go_wp2_with (go_at_call 133; with_reducible refine HUc.out.mono ?_; rintro e' w1 ⟨rfl, h1, m1⟩; have hX1 := HX0.out.moves m1 (by omega); have z1 := hX1.cell 1; have t1 := hX1.frozen 1)
  have hm1 := HM0.out.trans m1 fun k h => .inl h
  have hD1 := HD0.out.moves m1 (by omega)
  have ms : Moves (fun i => i = w.heap.size + 1) w1 _ := ((Moves.refl (fun i => i = w.heap.size + 1) w1).setCell (p := ⟨w.heap.size + 1, 1, none⟩) (.inl rfl) (.int .i64 (n : Int)))
  have HR2 : Hid (WAt _ R r2 er) := h1.moves ms (by omega)
  have HD2 := Lib.hid (hD1.moves ms (by omega))
  have HX2 := Lib.hid (Holds.set hX1 1 (.int .i64 (n : Int)))
  have HM2 := Lib.hid (hm1.setCell (p := ⟨w.heap.size + 1, 1, none⟩) (.inr (by show w.heap.size ≤ w.heap.size + 1; omega)) (.int .i64 (n : Int)))
  obtain ⟨W2, hW2⟩ : ∃ W2, W2 = (w1.setCell ⟨w.heap.size + 1, 1, none⟩ (.int .i64 (n : Int))) := ⟨_, rfl⟩
  rw [← hW2] at HR2 HD2 HX2 HM2 ⊢
  clear hW2 ms
  clear hm1 hD1 hX1 h1 m1
  have HL : Hid (∀ (W : World) (t : TypeId), Holds (W.alloc (.cells #[.int .i64 er, .int .i64 0] t)) W.heap.size t #[.int .i64 er, .int .i64 0]) := fun W t => Holds.new W t _
  obtain ⟨E, hEq⟩ : ∃ E, E = orE er 0 := ⟨_, rfl⟩
  have HEq := Lib.hid hEq
  have HC : Hid (∀ (W : World) (t : TypeId) (g : Nat) (h : Holds W g t #[.int .i64 er, .int .i64 0]), Calls Tryz.prog 156 #[.slice (some ⟨g, 0, none⟩) 2 2] W fun e w' => e = .returned (.int .i64 E) ∧ w' = W) := fun W t g h => by rw [hEq]; exact cmpOrE_any h
  clear hEq
  by_cases hE : E = 0
  · have hq : (E != 0) = false := by rw [hE]; rfl
    have HEo := Lib.hid hE
    clear hE
    go_wp2_with (first
      | (go_at_call 134; with_reducible refine (err_any HR2.out).mono ?_; rintro e' w3 ⟨rfl, hw3⟩; have hw3 := hw3.symm; subst hw3; have hD4 := HD2.out.moves ((Moves.refl nobody W2).alloc (.cells #[.int .i64 er, .int .i64 0] 43)) (fun h => h); have hX4 := HX2.out.moves ((Moves.refl nobody W2).alloc (.cells #[.int .i64 er, .int .i64 0] 43)) (fun h => h); have c0 := hD4.cell 0; have c1 := hD4.cell 1; have c2 := hD4.cell 2; have c3 := hD4.cell 3; have s0 := hD4.frozen 0; have s1 := hD4.frozen 1; have s2 := hD4.frozen 2; have s3 := hD4.frozen 3; have y0 := hX4.cell 0; have y1 := hX4.cell 1; have y2 := hX4.cell 2; have y3 := hX4.cell 3)
      | (go_at_call 156; with_reducible refine (HC.out _ _ _ (HL.out _ _)).mono ?_; rintro e' w4 ⟨rfl, hw4⟩; have hw4 := hw4.symm; subst hw4))
    have hF := Holds.set (Holds.set (Holds.set (Holds.set hD4 0 (.int .u8 117)) 1 (.int .i64 (n : Int))) 2 (.string ⟨#[]⟩)) 3 (.slice none 0 0)
    have mf : Moves (fun i => i = w.heap.size) (W2.alloc (.cells #[.int .i64 er, .int .i64 0] 43)) _ := ((((Moves.refl (fun i => i = w.heap.size) _).setCell (p := ⟨w.heap.size, 0, none⟩) (.inl rfl) (.int .u8 117)).setCell (p := ⟨w.heap.size, 1, none⟩) (.inl rfl) (.int .i64 (n : Int))).setCell (p := ⟨w.heap.size, 2, none⟩) (.inl rfl) (.string ⟨#[]⟩)).setCell (p := ⟨w.heap.size, 3, none⟩) (.inl rfl) (.slice none 0 0)
    have mg := ((Moves.refl (fun i => i = w.heap.size) W2).alloc (.cells #[.int .i64 er, .int .i64 0] 43)).trans mf fun i h => .inl h
    have mm := HM2.out.trans mg fun i h => .inr (by rw [h]; exact Nat.le_refl _)
    try simp only [Exit.inBlock, Exit.then]
    have hz := orE_zero (HEq.out.symm.trans HEo.out)
    have hR4 := WAt.err (Holds.moves HR2.out mg (by omega)) hz.1
    refine bodyPost_ret (rdResults (p := 4) (u := 5) rfl _ _ w.heap.size _ _ (0, 0) _ rfl hF Tryz.underlying81 rfl (by kernel_rfl)) rfl ⟨mm, .inr ⟨by rw [← HEq.out]; exact HEo.out, ?_⟩⟩
    exact ⟨none, 0, rfl, Nat.le_refl _, TextsAt.nil _, hR4, fun g hg => by simp [Value.ownBlock] at hg⟩
  · have hq : (E != 0) = true := by rw [bne_iff_ne]; exact hE
    have HEo := Lib.hid hE
    clear hE
    go_wp2_with (first
      | (go_at_call 134; with_reducible refine (err_any HR2.out).mono ?_; rintro e' w3 ⟨rfl, hw3⟩; have hw3 := hw3.symm; subst hw3; have hD4 := HD2.out.moves ((Moves.refl nobody W2).alloc (.cells #[.int .i64 er, .int .i64 0] 43)) (fun h => h); have hX4 := HX2.out.moves ((Moves.refl nobody W2).alloc (.cells #[.int .i64 er, .int .i64 0] 43)) (fun h => h); have c0 := hD4.cell 0; have c1 := hD4.cell 1; have c2 := hD4.cell 2; have c3 := hD4.cell 3; have s0 := hD4.frozen 0; have s1 := hD4.frozen 1; have s2 := hD4.frozen 2; have s3 := hD4.frozen 3; have y0 := hX4.cell 0; have y1 := hX4.cell 1; have y2 := hX4.cell 2; have y3 := hX4.cell 3)
      | (go_at_call 156; with_reducible refine (HC.out _ _ _ (HL.out _ _)).mono ?_; rintro e' w4 ⟨rfl, hw4⟩; have hw4 := hw4.symm; subst hw4))
    have hF := Holds.set (Holds.set (Holds.set (Holds.set hD4 0 (.int .u8 0)) 1 (.int .i64 0)) 2 (.string ⟨#[]⟩)) 3 (.slice none 0 0)
    have mf : Moves (fun i => i = w.heap.size) (W2.alloc (.cells #[.int .i64 er, .int .i64 0] 43)) _ := ((((Moves.refl (fun i => i = w.heap.size) _).setCell (p := ⟨w.heap.size, 0, none⟩) (.inl rfl) (.int .u8 0)).setCell (p := ⟨w.heap.size, 1, none⟩) (.inl rfl) (.int .i64 0)).setCell (p := ⟨w.heap.size, 2, none⟩) (.inl rfl) (.string ⟨#[]⟩)).setCell (p := ⟨w.heap.size, 3, none⟩) (.inl rfl) (.slice none 0 0)
    have mg := ((Moves.refl (fun i => i = w.heap.size) W2).alloc (.cells #[.int .i64 er, .int .i64 0] 43)).trans mf fun i h => .inl h
    have mm := HM2.out.trans mg fun i h => .inr (by rw [h]; exact Nat.le_refl _)
    try simp only [Exit.inBlock, Exit.then]
    refine bodyPost_ret (rdResults (p := 4) (u := 5) rfl _ _ w.heap.size _ _ (0, 0) _ rfl hF Tryz.underlying81 rfl (by kernel_rfl)) rfl ⟨mm, .inl ⟨by rw [← HEq.out]; exact HEo.out, ?_⟩⟩
    rw [← HEq.out]
    rfl

set_option maxRecDepth 100000 in
theorem read_s {w : World} {R : Nat} {rest : List UInt8} (h : WAt w R rest 0) (hr : rest.length ≤ 40000) :
    Calls Tryz.prog 127 #[.int .i32 115, .pointer (some ⟨R, 0, none⟩)] w (ReadPost R w (orE (countedP anyR rest 0).2.2 0) ⟨115, 0, (countedP anyR rest 0).1, []⟩ (countedP anyR rest 0).2.1) := by
  have HU : Hid (∀ W, Below w.heap.size w W → _) := fun (W : World) (hb : Below w.heap.size w W) => rText_any (h.moves (Moves.ofBelow (S := nobody) hb) fun h => h) (show rest.length ≤ 1000000 by omega)
  generalize countedP anyR rest 0 = p at *
  obtain ⟨s, r2, er⟩ := p
  simp only at *
  have hRl := h.lt
  have hD0 := ((Holds.new w 81 #[.int .u8 0, .int .i64 0, .string ⟨#[]⟩, .slice none 0 0])).moves ((Moves.refl nobody _).alloc (.cells #[.int .u8 115, .int .i64 0, .string ⟨#[]⟩, .slice none 0 0] 81)) (fun h => h)
  have hX0 := Holds.new (w.alloc (.cells #[.int .u8 0, .int .i64 0, .string ⟨#[]⟩, .slice none 0 0] 81)) 81 #[.int .u8 115, .int .i64 0, .string ⟨#[]⟩, .slice none 0 0]
  rw [World.size_alloc] at hX0
  have hm0 : Moves (fun k => k = R) w ((w.alloc (.cells #[.int .u8 0, .int .i64 0, .string ⟨#[]⟩, .slice none 0 0] 81)).alloc (.cells #[.int .u8 115, .int .i64 0, .string ⟨#[]⟩, .slice none 0 0] 81)) := ((Moves.refl (fun k => k = R) w).alloc _).alloc _
  have hb0 : Below w.heap.size w ((w.alloc (.cells #[.int .u8 0, .int .i64 0, .string ⟨#[]⟩, .slice none 0 0] 81)).alloc (.cells #[.int .u8 115, .int .i64 0, .string ⟨#[]⟩, .slice none 0 0] 81)) := ((Below.refl _ w).alloc (Nat.le_refl _) _).alloc (by simp) _
  have hs0 : ((w.alloc (.cells #[.int .u8 0, .int .i64 0, .string ⟨#[]⟩, .slice none 0 0] 81)).alloc (.cells #[.int .u8 115, .int .i64 0, .string ⟨#[]⟩, .slice none 0 0] 81)).heap.size = w.heap.size + 2 := by simp
  have HD0 := Lib.hid hD0
  have HX0 := Lib.hid hX0
  have HM0 := Lib.hid hm0
  have HUc := Lib.hid (HU.out _ hb0)
  have HB0 := Lib.hid hb0
  have HS0 := Lib.hid hs0
  clear hD0 hX0 hm0 hb0 hs0 HU h
  go_enter Tryz.func127, Tryz.ntmps127
  go_wp2_with (go_at_call 151; with_reducible refine HUc.out.mono ?_; rintro e' w1 ⟨rfl, h1, m1⟩; have hX1 := HX0.out.moves m1 (by omega); have z1 := hX1.cell 2; have t1 := hX1.frozen 2)
  have hm1 := HM0.out.trans m1 fun k h => .inl h
  have hD1 := HD0.out.moves m1 (by omega)
  have ms : Moves (fun i => i = w.heap.size + 1) w1 _ := ((Moves.refl (fun i => i = w.heap.size + 1) w1).setCell (p := ⟨w.heap.size + 1, 2, none⟩) (.inl rfl) (.string (bs s)))
  have HR2 : Hid (WAt _ R r2 er) := h1.moves ms (by omega)
  have HD2 := Lib.hid (hD1.moves ms (by omega))
  have HX2 := Lib.hid (Holds.set hX1 2 (.string (bs s)))
  have HM2 := Lib.hid (hm1.setCell (p := ⟨w.heap.size + 1, 2, none⟩) (.inr (by show w.heap.size ≤ w.heap.size + 1; omega)) (.string (bs s)))
  obtain ⟨W2, hW2⟩ : ∃ W2, W2 = (w1.setCell ⟨w.heap.size + 1, 2, none⟩ (.string (bs s))) := ⟨_, rfl⟩
  rw [← hW2] at HR2 HD2 HX2 HM2 ⊢
  clear hW2 ms
  clear hm1 hD1 hX1 h1 m1
  have HL : Hid (∀ (W : World) (t : TypeId), Holds (W.alloc (.cells #[.int .i64 er, .int .i64 0] t)) W.heap.size t #[.int .i64 er, .int .i64 0]) := fun W t => Holds.new W t _
  obtain ⟨E, hEq⟩ : ∃ E, E = orE er 0 := ⟨_, rfl⟩
  have HEq := Lib.hid hEq
  have HC : Hid (∀ (W : World) (t : TypeId) (g : Nat) (h : Holds W g t #[.int .i64 er, .int .i64 0]), Calls Tryz.prog 156 #[.slice (some ⟨g, 0, none⟩) 2 2] W fun e w' => e = .returned (.int .i64 E) ∧ w' = W) := fun W t g h => by rw [hEq]; exact cmpOrE_any h
  clear hEq
  by_cases hE : E = 0
  · have hq : (E != 0) = false := by rw [hE]; rfl
    have HEo := Lib.hid hE
    clear hE
    go_wp2_with (first
      | (go_at_call 134; with_reducible refine (err_any HR2.out).mono ?_; rintro e' w3 ⟨rfl, hw3⟩; have hw3 := hw3.symm; subst hw3; have hD4 := HD2.out.moves ((Moves.refl nobody W2).alloc (.cells #[.int .i64 er, .int .i64 0] 43)) (fun h => h); have hX4 := HX2.out.moves ((Moves.refl nobody W2).alloc (.cells #[.int .i64 er, .int .i64 0] 43)) (fun h => h); have c0 := hD4.cell 0; have c1 := hD4.cell 1; have c2 := hD4.cell 2; have c3 := hD4.cell 3; have s0 := hD4.frozen 0; have s1 := hD4.frozen 1; have s2 := hD4.frozen 2; have s3 := hD4.frozen 3; have y0 := hX4.cell 0; have y1 := hX4.cell 1; have y2 := hX4.cell 2; have y3 := hX4.cell 3)
      | (go_at_call 156; with_reducible refine (HC.out _ _ _ (HL.out _ _)).mono ?_; rintro e' w4 ⟨rfl, hw4⟩; have hw4 := hw4.symm; subst hw4))
    have hF := Holds.set (Holds.set (Holds.set (Holds.set hD4 0 (.int .u8 115)) 1 (.int .i64 0)) 2 (.string (bs s))) 3 (.slice none 0 0)
    have mf : Moves (fun i => i = w.heap.size) (W2.alloc (.cells #[.int .i64 er, .int .i64 0] 43)) _ := ((((Moves.refl (fun i => i = w.heap.size) _).setCell (p := ⟨w.heap.size, 0, none⟩) (.inl rfl) (.int .u8 115)).setCell (p := ⟨w.heap.size, 1, none⟩) (.inl rfl) (.int .i64 0)).setCell (p := ⟨w.heap.size, 2, none⟩) (.inl rfl) (.string (bs s))).setCell (p := ⟨w.heap.size, 3, none⟩) (.inl rfl) (.slice none 0 0)
    have mg := ((Moves.refl (fun i => i = w.heap.size) W2).alloc (.cells #[.int .i64 er, .int .i64 0] 43)).trans mf fun i h => .inl h
    have mm := HM2.out.trans mg fun i h => .inr (by rw [h]; exact Nat.le_refl _)
    try simp only [Exit.inBlock, Exit.then]
    have hz := orE_zero (HEq.out.symm.trans HEo.out)
    have hR4 := WAt.err (Holds.moves HR2.out mg (by omega)) hz.1
    refine bodyPost_ret (rdResults (p := 4) (u := 5) rfl _ _ w.heap.size _ _ (0, 0) _ rfl hF Tryz.underlying81 rfl (by kernel_rfl)) rfl ⟨mm, .inr ⟨by rw [← HEq.out]; exact HEo.out, ?_⟩⟩
    exact ⟨none, 0, rfl, Nat.le_refl _, TextsAt.nil _, hR4, fun g hg => by simp [Value.ownBlock] at hg⟩
  · have hq : (E != 0) = true := by rw [bne_iff_ne]; exact hE
    have HEo := Lib.hid hE
    clear hE
    go_wp2_with (first
      | (go_at_call 134; with_reducible refine (err_any HR2.out).mono ?_; rintro e' w3 ⟨rfl, hw3⟩; have hw3 := hw3.symm; subst hw3; have hD4 := HD2.out.moves ((Moves.refl nobody W2).alloc (.cells #[.int .i64 er, .int .i64 0] 43)) (fun h => h); have hX4 := HX2.out.moves ((Moves.refl nobody W2).alloc (.cells #[.int .i64 er, .int .i64 0] 43)) (fun h => h); have c0 := hD4.cell 0; have c1 := hD4.cell 1; have c2 := hD4.cell 2; have c3 := hD4.cell 3; have s0 := hD4.frozen 0; have s1 := hD4.frozen 1; have s2 := hD4.frozen 2; have s3 := hD4.frozen 3; have y0 := hX4.cell 0; have y1 := hX4.cell 1; have y2 := hX4.cell 2; have y3 := hX4.cell 3)
      | (go_at_call 156; with_reducible refine (HC.out _ _ _ (HL.out _ _)).mono ?_; rintro e' w4 ⟨rfl, hw4⟩; have hw4 := hw4.symm; subst hw4))
    have hF := Holds.set (Holds.set (Holds.set (Holds.set hD4 0 (.int .u8 0)) 1 (.int .i64 0)) 2 (.string ⟨#[]⟩)) 3 (.slice none 0 0)
    have mf : Moves (fun i => i = w.heap.size) (W2.alloc (.cells #[.int .i64 er, .int .i64 0] 43)) _ := ((((Moves.refl (fun i => i = w.heap.size) _).setCell (p := ⟨w.heap.size, 0, none⟩) (.inl rfl) (.int .u8 0)).setCell (p := ⟨w.heap.size, 1, none⟩) (.inl rfl) (.int .i64 0)).setCell (p := ⟨w.heap.size, 2, none⟩) (.inl rfl) (.string ⟨#[]⟩)).setCell (p := ⟨w.heap.size, 3, none⟩) (.inl rfl) (.slice none 0 0)
    have mg := ((Moves.refl (fun i => i = w.heap.size) W2).alloc (.cells #[.int .i64 er, .int .i64 0] 43)).trans mf fun i h => .inl h
    have mm := HM2.out.trans mg fun i h => .inr (by rw [h]; exact Nat.le_refl _)
    try simp only [Exit.inBlock, Exit.then]
    refine bodyPost_ret (rdResults (p := 4) (u := 5) rfl _ _ w.heap.size _ _ (0, 0) _ rfl hF Tryz.underlying81 rfl (by kernel_rfl)) rfl ⟨mm, .inl ⟨by rw [← HEq.out]; exact HEo.out, ?_⟩⟩
    rw [← HEq.out]
    rfl

set_option maxRecDepth 100000 in
theorem read_t {w : World} {R : Nat} {rest : List UInt8} (h : WAt w R rest 0) (hr : rest.length ≤ 40000) :
    Calls Tryz.prog 127 #[.int .i32 116, .pointer (some ⟨R, 0, none⟩)] w (ReadPost R w (orE (countedP anyR rest 0).2.2 0) ⟨116, 0, (countedP anyR rest 0).1, []⟩ (countedP anyR rest 0).2.1) := by
  have HU : Hid (∀ W, Below w.heap.size w W → _) := fun (W : World) (hb : Below w.heap.size w W) => rText_any (h.moves (Moves.ofBelow (S := nobody) hb) fun h => h) (show rest.length ≤ 1000000 by omega)
  generalize countedP anyR rest 0 = p at *
  obtain ⟨s, r2, er⟩ := p
  simp only at *
  have hRl := h.lt
  have hD0 := ((Holds.new w 81 #[.int .u8 0, .int .i64 0, .string ⟨#[]⟩, .slice none 0 0])).moves ((Moves.refl nobody _).alloc (.cells #[.int .u8 116, .int .i64 0, .string ⟨#[]⟩, .slice none 0 0] 81)) (fun h => h)
  have hX0 := Holds.new (w.alloc (.cells #[.int .u8 0, .int .i64 0, .string ⟨#[]⟩, .slice none 0 0] 81)) 81 #[.int .u8 116, .int .i64 0, .string ⟨#[]⟩, .slice none 0 0]
  rw [World.size_alloc] at hX0
  have hm0 : Moves (fun k => k = R) w ((w.alloc (.cells #[.int .u8 0, .int .i64 0, .string ⟨#[]⟩, .slice none 0 0] 81)).alloc (.cells #[.int .u8 116, .int .i64 0, .string ⟨#[]⟩, .slice none 0 0] 81)) := ((Moves.refl (fun k => k = R) w).alloc _).alloc _
  have hb0 : Below w.heap.size w ((w.alloc (.cells #[.int .u8 0, .int .i64 0, .string ⟨#[]⟩, .slice none 0 0] 81)).alloc (.cells #[.int .u8 116, .int .i64 0, .string ⟨#[]⟩, .slice none 0 0] 81)) := ((Below.refl _ w).alloc (Nat.le_refl _) _).alloc (by simp) _
  have hs0 : ((w.alloc (.cells #[.int .u8 0, .int .i64 0, .string ⟨#[]⟩, .slice none 0 0] 81)).alloc (.cells #[.int .u8 116, .int .i64 0, .string ⟨#[]⟩, .slice none 0 0] 81)).heap.size = w.heap.size + 2 := by simp
  have HD0 := Lib.hid hD0
  have HX0 := Lib.hid hX0
  have HM0 := Lib.hid hm0
  have HUc := Lib.hid (HU.out _ hb0)
  have HB0 := Lib.hid hb0
  have HS0 := Lib.hid hs0
  clear hD0 hX0 hm0 hb0 hs0 HU h
  go_enter Tryz.func127, Tryz.ntmps127
  go_wp2_with (go_at_call 151; with_reducible refine HUc.out.mono ?_; rintro e' w1 ⟨rfl, h1, m1⟩; have hX1 := HX0.out.moves m1 (by omega); have z1 := hX1.cell 2; have t1 := hX1.frozen 2)
  have hm1 := HM0.out.trans m1 fun k h => .inl h
  have hD1 := HD0.out.moves m1 (by omega)
  have ms : Moves (fun i => i = w.heap.size + 1) w1 _ := ((Moves.refl (fun i => i = w.heap.size + 1) w1).setCell (p := ⟨w.heap.size + 1, 2, none⟩) (.inl rfl) (.string (bs s)))
  have HR2 : Hid (WAt _ R r2 er) := h1.moves ms (by omega)
  have HD2 := Lib.hid (hD1.moves ms (by omega))
  have HX2 := Lib.hid (Holds.set hX1 2 (.string (bs s)))
  have HM2 := Lib.hid (hm1.setCell (p := ⟨w.heap.size + 1, 2, none⟩) (.inr (by show w.heap.size ≤ w.heap.size + 1; omega)) (.string (bs s)))
  obtain ⟨W2, hW2⟩ : ∃ W2, W2 = (w1.setCell ⟨w.heap.size + 1, 2, none⟩ (.string (bs s))) := ⟨_, rfl⟩
  rw [← hW2] at HR2 HD2 HX2 HM2 ⊢
  clear hW2 ms
  clear hm1 hD1 hX1 h1 m1
  have HL : Hid (∀ (W : World) (t : TypeId), Holds (W.alloc (.cells #[.int .i64 er, .int .i64 0] t)) W.heap.size t #[.int .i64 er, .int .i64 0]) := fun W t => Holds.new W t _
  obtain ⟨E, hEq⟩ : ∃ E, E = orE er 0 := ⟨_, rfl⟩
  have HEq := Lib.hid hEq
  have HC : Hid (∀ (W : World) (t : TypeId) (g : Nat) (h : Holds W g t #[.int .i64 er, .int .i64 0]), Calls Tryz.prog 156 #[.slice (some ⟨g, 0, none⟩) 2 2] W fun e w' => e = .returned (.int .i64 E) ∧ w' = W) := fun W t g h => by rw [hEq]; exact cmpOrE_any h
  clear hEq
  by_cases hE : E = 0
  · have hq : (E != 0) = false := by rw [hE]; rfl
    have HEo := Lib.hid hE
    clear hE
    go_wp2_with (first
      | (go_at_call 134; with_reducible refine (err_any HR2.out).mono ?_; rintro e' w3 ⟨rfl, hw3⟩; have hw3 := hw3.symm; subst hw3; have hD4 := HD2.out.moves ((Moves.refl nobody W2).alloc (.cells #[.int .i64 er, .int .i64 0] 43)) (fun h => h); have hX4 := HX2.out.moves ((Moves.refl nobody W2).alloc (.cells #[.int .i64 er, .int .i64 0] 43)) (fun h => h); have c0 := hD4.cell 0; have c1 := hD4.cell 1; have c2 := hD4.cell 2; have c3 := hD4.cell 3; have s0 := hD4.frozen 0; have s1 := hD4.frozen 1; have s2 := hD4.frozen 2; have s3 := hD4.frozen 3; have y0 := hX4.cell 0; have y1 := hX4.cell 1; have y2 := hX4.cell 2; have y3 := hX4.cell 3)
      | (go_at_call 156; with_reducible refine (HC.out _ _ _ (HL.out _ _)).mono ?_; rintro e' w4 ⟨rfl, hw4⟩; have hw4 := hw4.symm; subst hw4))
    have hF := Holds.set (Holds.set (Holds.set (Holds.set hD4 0 (.int .u8 116)) 1 (.int .i64 0)) 2 (.string (bs s))) 3 (.slice none 0 0)
    have mf : Moves (fun i => i = w.heap.size) (W2.alloc (.cells #[.int .i64 er, .int .i64 0] 43)) _ := ((((Moves.refl (fun i => i = w.heap.size) _).setCell (p := ⟨w.heap.size, 0, none⟩) (.inl rfl) (.int .u8 116)).setCell (p := ⟨w.heap.size, 1, none⟩) (.inl rfl) (.int .i64 0)).setCell (p := ⟨w.heap.size, 2, none⟩) (.inl rfl) (.string (bs s))).setCell (p := ⟨w.heap.size, 3, none⟩) (.inl rfl) (.slice none 0 0)
    have mg := ((Moves.refl (fun i => i = w.heap.size) W2).alloc (.cells #[.int .i64 er, .int .i64 0] 43)).trans mf fun i h => .inl h
    have mm := HM2.out.trans mg fun i h => .inr (by rw [h]; exact Nat.le_refl _)
    try simp only [Exit.inBlock, Exit.then]
    have hz := orE_zero (HEq.out.symm.trans HEo.out)
    have hR4 := WAt.err (Holds.moves HR2.out mg (by omega)) hz.1
    refine bodyPost_ret (rdResults (p := 4) (u := 5) rfl _ _ w.heap.size _ _ (0, 0) _ rfl hF Tryz.underlying81 rfl (by kernel_rfl)) rfl ⟨mm, .inr ⟨by rw [← HEq.out]; exact HEo.out, ?_⟩⟩
    exact ⟨none, 0, rfl, Nat.le_refl _, TextsAt.nil _, hR4, fun g hg => by simp [Value.ownBlock] at hg⟩
  · have hq : (E != 0) = true := by rw [bne_iff_ne]; exact hE
    have HEo := Lib.hid hE
    clear hE
    go_wp2_with (first
      | (go_at_call 134; with_reducible refine (err_any HR2.out).mono ?_; rintro e' w3 ⟨rfl, hw3⟩; have hw3 := hw3.symm; subst hw3; have hD4 := HD2.out.moves ((Moves.refl nobody W2).alloc (.cells #[.int .i64 er, .int .i64 0] 43)) (fun h => h); have hX4 := HX2.out.moves ((Moves.refl nobody W2).alloc (.cells #[.int .i64 er, .int .i64 0] 43)) (fun h => h); have c0 := hD4.cell 0; have c1 := hD4.cell 1; have c2 := hD4.cell 2; have c3 := hD4.cell 3; have s0 := hD4.frozen 0; have s1 := hD4.frozen 1; have s2 := hD4.frozen 2; have s3 := hD4.frozen 3; have y0 := hX4.cell 0; have y1 := hX4.cell 1; have y2 := hX4.cell 2; have y3 := hX4.cell 3)
      | (go_at_call 156; with_reducible refine (HC.out _ _ _ (HL.out _ _)).mono ?_; rintro e' w4 ⟨rfl, hw4⟩; have hw4 := hw4.symm; subst hw4))
    have hF := Holds.set (Holds.set (Holds.set (Holds.set hD4 0 (.int .u8 0)) 1 (.int .i64 0)) 2 (.string ⟨#[]⟩)) 3 (.slice none 0 0)
    have mf : Moves (fun i => i = w.heap.size) (W2.alloc (.cells #[.int .i64 er, .int .i64 0] 43)) _ := ((((Moves.refl (fun i => i = w.heap.size) _).setCell (p := ⟨w.heap.size, 0, none⟩) (.inl rfl) (.int .u8 0)).setCell (p := ⟨w.heap.size, 1, none⟩) (.inl rfl) (.int .i64 0)).setCell (p := ⟨w.heap.size, 2, none⟩) (.inl rfl) (.string ⟨#[]⟩)).setCell (p := ⟨w.heap.size, 3, none⟩) (.inl rfl) (.slice none 0 0)
    have mg := ((Moves.refl (fun i => i = w.heap.size) W2).alloc (.cells #[.int .i64 er, .int .i64 0] 43)).trans mf fun i h => .inl h
    have mm := HM2.out.trans mg fun i h => .inr (by rw [h]; exact Nat.le_refl _)
    try simp only [Exit.inBlock, Exit.then]
    refine bodyPost_ret (rdResults (p := 4) (u := 5) rfl _ _ w.heap.size _ _ (0, 0) _ rfl hF Tryz.underlying81 rfl (by kernel_rfl)) rfl ⟨mm, .inl ⟨by rw [← HEq.out]; exact HEo.out, ?_⟩⟩
    rw [← HEq.out]
    rfl

set_option maxRecDepth 100000 in
theorem read_m {w : World} {R : Nat} {rest : List UInt8} (h : WAt w R rest 0) (hr : rest.length ≤ 40000) :
    Calls Tryz.prog 127 #[.int .i32 109, .pointer (some ⟨R, 0, none⟩)] w (ReadPost R w (orE (countedP wholeR rest 0).2.2 0) ⟨109, 0, plainL (countedP wholeR rest 0).1, []⟩ (countedP wholeR rest 0).2.1) := by
  have HU : Hid (∀ W, Below w.heap.size w W → _) := fun (W : World) (hb : Below w.heap.size w W) => rWhole_any (h.moves (Moves.ofBelow (S := nobody) hb) fun h => h) (show rest.length ≤ 1000000 by omega)
  generalize countedP wholeR rest 0 = p at *
  obtain ⟨s, r2, er⟩ := p
  simp only at *
  have hRl := h.lt
  have hD0 := ((Holds.new w 81 #[.int .u8 0, .int .i64 0, .string ⟨#[]⟩, .slice none 0 0])).moves ((Moves.refl nobody _).alloc (.cells #[.int .u8 109, .int .i64 0, .string ⟨#[]⟩, .slice none 0 0] 81)) (fun h => h)
  have hX0 := Holds.new (w.alloc (.cells #[.int .u8 0, .int .i64 0, .string ⟨#[]⟩, .slice none 0 0] 81)) 81 #[.int .u8 109, .int .i64 0, .string ⟨#[]⟩, .slice none 0 0]
  rw [World.size_alloc] at hX0
  have hm0 : Moves (fun k => k = R) w ((w.alloc (.cells #[.int .u8 0, .int .i64 0, .string ⟨#[]⟩, .slice none 0 0] 81)).alloc (.cells #[.int .u8 109, .int .i64 0, .string ⟨#[]⟩, .slice none 0 0] 81)) := ((Moves.refl (fun k => k = R) w).alloc _).alloc _
  have hb0 : Below w.heap.size w ((w.alloc (.cells #[.int .u8 0, .int .i64 0, .string ⟨#[]⟩, .slice none 0 0] 81)).alloc (.cells #[.int .u8 109, .int .i64 0, .string ⟨#[]⟩, .slice none 0 0] 81)) := ((Below.refl _ w).alloc (Nat.le_refl _) _).alloc (by simp) _
  have hs0 : ((w.alloc (.cells #[.int .u8 0, .int .i64 0, .string ⟨#[]⟩, .slice none 0 0] 81)).alloc (.cells #[.int .u8 109, .int .i64 0, .string ⟨#[]⟩, .slice none 0 0] 81)).heap.size = w.heap.size + 2 := by simp
  have HD0 := Lib.hid hD0
  have HX0 := Lib.hid hX0
  have HM0 := Lib.hid hm0
  have HUc := Lib.hid (HU.out _ hb0)
  have HB0 := Lib.hid hb0
  have HS0 := Lib.hid hs0
  clear hD0 hX0 hm0 hb0 hs0 HU h
  go_enter Tryz.func127, Tryz.ntmps127
  go_wp2_with (go_at_call 152; with_reducible refine HUc.out.mono ?_; rintro e' w1 ⟨rfl, h1, m1⟩; have hX1 := HX0.out.moves m1 (by omega); have z1 := hX1.cell 2; have t1 := hX1.frozen 2)
  have hm1 := HM0.out.trans m1 fun k h => .inl h
  have hD1 := HD0.out.moves m1 (by omega)
  have ms : Moves (fun i => i = w.heap.size + 1) w1 _ := ((Moves.refl (fun i => i = w.heap.size + 1) w1).setCell (p := ⟨w.heap.size + 1, 2, none⟩) (.inl rfl) (.string (bs (plainL s))))
  have HR2 : Hid (WAt _ R r2 er) := h1.moves ms (by omega)
  have HD2 := Lib.hid (hD1.moves ms (by omega))
  have HX2 := Lib.hid (Holds.set hX1 2 (.string (bs (plainL s))))
  have HM2 := Lib.hid (hm1.setCell (p := ⟨w.heap.size + 1, 2, none⟩) (.inr (by show w.heap.size ≤ w.heap.size + 1; omega)) (.string (bs (plainL s))))
  obtain ⟨W2, hW2⟩ : ∃ W2, W2 = (w1.setCell ⟨w.heap.size + 1, 2, none⟩ (.string (bs (plainL s)))) := ⟨_, rfl⟩
  rw [← hW2] at HR2 HD2 HX2 HM2 ⊢
  clear hW2 ms
  clear hm1 hD1 hX1 h1 m1
  have HL : Hid (∀ (W : World) (t : TypeId), Holds (W.alloc (.cells #[.int .i64 er, .int .i64 0] t)) W.heap.size t #[.int .i64 er, .int .i64 0]) := fun W t => Holds.new W t _
  obtain ⟨E, hEq⟩ : ∃ E, E = orE er 0 := ⟨_, rfl⟩
  have HEq := Lib.hid hEq
  have HC : Hid (∀ (W : World) (t : TypeId) (g : Nat) (h : Holds W g t #[.int .i64 er, .int .i64 0]), Calls Tryz.prog 156 #[.slice (some ⟨g, 0, none⟩) 2 2] W fun e w' => e = .returned (.int .i64 E) ∧ w' = W) := fun W t g h => by rw [hEq]; exact cmpOrE_any h
  clear hEq
  by_cases hE : E = 0
  · have hq : (E != 0) = false := by rw [hE]; rfl
    have HEo := Lib.hid hE
    clear hE
    go_wp2_with (first
      | (go_at_call 134; with_reducible refine (err_any HR2.out).mono ?_; rintro e' w3 ⟨rfl, hw3⟩; have hw3 := hw3.symm; subst hw3; have hD4 := HD2.out.moves ((Moves.refl nobody W2).alloc (.cells #[.int .i64 er, .int .i64 0] 43)) (fun h => h); have hX4 := HX2.out.moves ((Moves.refl nobody W2).alloc (.cells #[.int .i64 er, .int .i64 0] 43)) (fun h => h); have c0 := hD4.cell 0; have c1 := hD4.cell 1; have c2 := hD4.cell 2; have c3 := hD4.cell 3; have s0 := hD4.frozen 0; have s1 := hD4.frozen 1; have s2 := hD4.frozen 2; have s3 := hD4.frozen 3; have y0 := hX4.cell 0; have y1 := hX4.cell 1; have y2 := hX4.cell 2; have y3 := hX4.cell 3)
      | (go_at_call 156; with_reducible refine (HC.out _ _ _ (HL.out _ _)).mono ?_; rintro e' w4 ⟨rfl, hw4⟩; have hw4 := hw4.symm; subst hw4))
    have hF := Holds.set (Holds.set (Holds.set (Holds.set hD4 0 (.int .u8 109)) 1 (.int .i64 0)) 2 (.string (bs (plainL s)))) 3 (.slice none 0 0)
    have mf : Moves (fun i => i = w.heap.size) (W2.alloc (.cells #[.int .i64 er, .int .i64 0] 43)) _ := ((((Moves.refl (fun i => i = w.heap.size) _).setCell (p := ⟨w.heap.size, 0, none⟩) (.inl rfl) (.int .u8 109)).setCell (p := ⟨w.heap.size, 1, none⟩) (.inl rfl) (.int .i64 0)).setCell (p := ⟨w.heap.size, 2, none⟩) (.inl rfl) (.string (bs (plainL s)))).setCell (p := ⟨w.heap.size, 3, none⟩) (.inl rfl) (.slice none 0 0)
    have mg := ((Moves.refl (fun i => i = w.heap.size) W2).alloc (.cells #[.int .i64 er, .int .i64 0] 43)).trans mf fun i h => .inl h
    have mm := HM2.out.trans mg fun i h => .inr (by rw [h]; exact Nat.le_refl _)
    try simp only [Exit.inBlock, Exit.then]
    have hz := orE_zero (HEq.out.symm.trans HEo.out)
    have hR4 := WAt.err (Holds.moves HR2.out mg (by omega)) hz.1
    refine bodyPost_ret (rdResults (p := 4) (u := 5) rfl _ _ w.heap.size _ _ (0, 0) _ rfl hF Tryz.underlying81 rfl (by kernel_rfl)) rfl ⟨mm, .inr ⟨by rw [← HEq.out]; exact HEo.out, ?_⟩⟩
    exact ⟨none, 0, rfl, Nat.le_refl _, TextsAt.nil _, hR4, fun g hg => by simp [Value.ownBlock] at hg⟩
  · have hq : (E != 0) = true := by rw [bne_iff_ne]; exact hE
    have HEo := Lib.hid hE
    clear hE
    go_wp2_with (first
      | (go_at_call 134; with_reducible refine (err_any HR2.out).mono ?_; rintro e' w3 ⟨rfl, hw3⟩; have hw3 := hw3.symm; subst hw3; have hD4 := HD2.out.moves ((Moves.refl nobody W2).alloc (.cells #[.int .i64 er, .int .i64 0] 43)) (fun h => h); have hX4 := HX2.out.moves ((Moves.refl nobody W2).alloc (.cells #[.int .i64 er, .int .i64 0] 43)) (fun h => h); have c0 := hD4.cell 0; have c1 := hD4.cell 1; have c2 := hD4.cell 2; have c3 := hD4.cell 3; have s0 := hD4.frozen 0; have s1 := hD4.frozen 1; have s2 := hD4.frozen 2; have s3 := hD4.frozen 3; have y0 := hX4.cell 0; have y1 := hX4.cell 1; have y2 := hX4.cell 2; have y3 := hX4.cell 3)
      | (go_at_call 156; with_reducible refine (HC.out _ _ _ (HL.out _ _)).mono ?_; rintro e' w4 ⟨rfl, hw4⟩; have hw4 := hw4.symm; subst hw4))
    have hF := Holds.set (Holds.set (Holds.set (Holds.set hD4 0 (.int .u8 0)) 1 (.int .i64 0)) 2 (.string ⟨#[]⟩)) 3 (.slice none 0 0)
    have mf : Moves (fun i => i = w.heap.size) (W2.alloc (.cells #[.int .i64 er, .int .i64 0] 43)) _ := ((((Moves.refl (fun i => i = w.heap.size) _).setCell (p := ⟨w.heap.size, 0, none⟩) (.inl rfl) (.int .u8 0)).setCell (p := ⟨w.heap.size, 1, none⟩) (.inl rfl) (.int .i64 0)).setCell (p := ⟨w.heap.size, 2, none⟩) (.inl rfl) (.string ⟨#[]⟩)).setCell (p := ⟨w.heap.size, 3, none⟩) (.inl rfl) (.slice none 0 0)
    have mg := ((Moves.refl (fun i => i = w.heap.size) W2).alloc (.cells #[.int .i64 er, .int .i64 0] 43)).trans mf fun i h => .inl h
    have mm := HM2.out.trans mg fun i h => .inr (by rw [h]; exact Nat.le_refl _)
    try simp only [Exit.inBlock, Exit.then]
    refine bodyPost_ret (rdResults (p := 4) (u := 5) rfl _ _ w.heap.size _ _ (0, 0) _ rfl hF Tryz.underlying81 rfl (by kernel_rfl)) rfl ⟨mm, .inl ⟨by rw [← HEq.out]; exact HEo.out, ?_⟩⟩
    rw [← HEq.out]
    rfl

set_option maxRecDepth 100000 in
theorem read_c {w : World} {R : Nat} {rest : List UInt8} (h : WAt w R rest 0) (hr : rest.length ≤ 40000) :
    Calls Tryz.prog 127 #[.int .i32 99, .pointer (some ⟨R, 0, none⟩)] w (ReadPost R w (orE (fixedP anyR 16 rest 0).2.2 0) ⟨99, 0, (fixedP anyR 16 rest 0).1, []⟩ (fixedP anyR 16 rest 0).2.1) := by
  have HU : Hid (∀ W, Below w.heap.size w W → _) := fun (W : World) (hb : Below w.heap.size w W) => rBytes_any (h.moves (Moves.ofBelow (S := nobody) hb) fun h => h) (show rest.length ≤ 1000000 by omega) 16
  generalize fixedP anyR 16 rest 0 = p at *
  obtain ⟨s, r2, er⟩ := p
  simp only at *
  have hRl := h.lt
  have hD0 := ((Holds.new w 81 #[.int .u8 0, .int .i64 0, .string ⟨#[]⟩, .slice none 0 0])).moves ((Moves.refl nobody _).alloc (.cells #[.int .u8 99, .int .i64 0, .string ⟨#[]⟩, .slice none 0 0] 81)) (fun h => h)
  have hX0 := Holds.new (w.alloc (.cells #[.int .u8 0, .int .i64 0, .string ⟨#[]⟩, .slice none 0 0] 81)) 81 #[.int .u8 99, .int .i64 0, .string ⟨#[]⟩, .slice none 0 0]
  rw [World.size_alloc] at hX0
  have hm0 : Moves (fun k => k = R) w ((w.alloc (.cells #[.int .u8 0, .int .i64 0, .string ⟨#[]⟩, .slice none 0 0] 81)).alloc (.cells #[.int .u8 99, .int .i64 0, .string ⟨#[]⟩, .slice none 0 0] 81)) := ((Moves.refl (fun k => k = R) w).alloc _).alloc _
  have hb0 : Below w.heap.size w ((w.alloc (.cells #[.int .u8 0, .int .i64 0, .string ⟨#[]⟩, .slice none 0 0] 81)).alloc (.cells #[.int .u8 99, .int .i64 0, .string ⟨#[]⟩, .slice none 0 0] 81)) := ((Below.refl _ w).alloc (Nat.le_refl _) _).alloc (by simp) _
  have hs0 : ((w.alloc (.cells #[.int .u8 0, .int .i64 0, .string ⟨#[]⟩, .slice none 0 0] 81)).alloc (.cells #[.int .u8 99, .int .i64 0, .string ⟨#[]⟩, .slice none 0 0] 81)).heap.size = w.heap.size + 2 := by simp
  have HD0 := Lib.hid hD0
  have HX0 := Lib.hid hX0
  have HM0 := Lib.hid hm0
  have HUc := Lib.hid (HU.out _ hb0)
  have HB0 := Lib.hid hb0
  have HS0 := Lib.hid hs0
  clear hD0 hX0 hm0 hb0 hs0 HU h
  go_enter Tryz.func127, Tryz.ntmps127
  go_wp2_with (go_at_call 153; with_reducible refine HUc.out.mono ?_; rintro e' w1 ⟨rfl, h1, m1⟩; have hX1 := HX0.out.moves m1 (by omega); have z1 := hX1.cell 2; have t1 := hX1.frozen 2)
  have hm1 := HM0.out.trans m1 fun k h => .inl h
  have hD1 := HD0.out.moves m1 (by omega)
  have ms : Moves (fun i => i = w.heap.size + 1) w1 _ := ((Moves.refl (fun i => i = w.heap.size + 1) w1).setCell (p := ⟨w.heap.size + 1, 2, none⟩) (.inl rfl) (.string (bs s)))
  have HR2 : Hid (WAt _ R r2 er) := h1.moves ms (by omega)
  have HD2 := Lib.hid (hD1.moves ms (by omega))
  have HX2 := Lib.hid (Holds.set hX1 2 (.string (bs s)))
  have HM2 := Lib.hid (hm1.setCell (p := ⟨w.heap.size + 1, 2, none⟩) (.inr (by show w.heap.size ≤ w.heap.size + 1; omega)) (.string (bs s)))
  obtain ⟨W2, hW2⟩ : ∃ W2, W2 = (w1.setCell ⟨w.heap.size + 1, 2, none⟩ (.string (bs s))) := ⟨_, rfl⟩
  rw [← hW2] at HR2 HD2 HX2 HM2 ⊢
  clear hW2 ms
  clear hm1 hD1 hX1 h1 m1
  have HL : Hid (∀ (W : World) (t : TypeId), Holds (W.alloc (.cells #[.int .i64 er, .int .i64 0] t)) W.heap.size t #[.int .i64 er, .int .i64 0]) := fun W t => Holds.new W t _
  obtain ⟨E, hEq⟩ : ∃ E, E = orE er 0 := ⟨_, rfl⟩
  have HEq := Lib.hid hEq
  have HC : Hid (∀ (W : World) (t : TypeId) (g : Nat) (h : Holds W g t #[.int .i64 er, .int .i64 0]), Calls Tryz.prog 156 #[.slice (some ⟨g, 0, none⟩) 2 2] W fun e w' => e = .returned (.int .i64 E) ∧ w' = W) := fun W t g h => by rw [hEq]; exact cmpOrE_any h
  clear hEq
  by_cases hE : E = 0
  · have hq : (E != 0) = false := by rw [hE]; rfl
    have HEo := Lib.hid hE
    clear hE
    go_wp2_with (first
      | (go_at_call 134; with_reducible refine (err_any HR2.out).mono ?_; rintro e' w3 ⟨rfl, hw3⟩; have hw3 := hw3.symm; subst hw3; have hD4 := HD2.out.moves ((Moves.refl nobody W2).alloc (.cells #[.int .i64 er, .int .i64 0] 43)) (fun h => h); have hX4 := HX2.out.moves ((Moves.refl nobody W2).alloc (.cells #[.int .i64 er, .int .i64 0] 43)) (fun h => h); have c0 := hD4.cell 0; have c1 := hD4.cell 1; have c2 := hD4.cell 2; have c3 := hD4.cell 3; have s0 := hD4.frozen 0; have s1 := hD4.frozen 1; have s2 := hD4.frozen 2; have s3 := hD4.frozen 3; have y0 := hX4.cell 0; have y1 := hX4.cell 1; have y2 := hX4.cell 2; have y3 := hX4.cell 3)
      | (go_at_call 156; with_reducible refine (HC.out _ _ _ (HL.out _ _)).mono ?_; rintro e' w4 ⟨rfl, hw4⟩; have hw4 := hw4.symm; subst hw4))
    have hF := Holds.set (Holds.set (Holds.set (Holds.set hD4 0 (.int .u8 99)) 1 (.int .i64 0)) 2 (.string (bs s))) 3 (.slice none 0 0)
    have mf : Moves (fun i => i = w.heap.size) (W2.alloc (.cells #[.int .i64 er, .int .i64 0] 43)) _ := ((((Moves.refl (fun i => i = w.heap.size) _).setCell (p := ⟨w.heap.size, 0, none⟩) (.inl rfl) (.int .u8 99)).setCell (p := ⟨w.heap.size, 1, none⟩) (.inl rfl) (.int .i64 0)).setCell (p := ⟨w.heap.size, 2, none⟩) (.inl rfl) (.string (bs s))).setCell (p := ⟨w.heap.size, 3, none⟩) (.inl rfl) (.slice none 0 0)
    have mg := ((Moves.refl (fun i => i = w.heap.size) W2).alloc (.cells #[.int .i64 er, .int .i64 0] 43)).trans mf fun i h => .inl h
    have mm := HM2.out.trans mg fun i h => .inr (by rw [h]; exact Nat.le_refl _)
    try simp only [Exit.inBlock, Exit.then]
    have hz := orE_zero (HEq.out.symm.trans HEo.out)
    have hR4 := WAt.err (Holds.moves HR2.out mg (by omega)) hz.1
    refine bodyPost_ret (rdResults (p := 4) (u := 5) rfl _ _ w.heap.size _ _ (0, 0) _ rfl hF Tryz.underlying81 rfl (by kernel_rfl)) rfl ⟨mm, .inr ⟨by rw [← HEq.out]; exact HEo.out, ?_⟩⟩
    exact ⟨none, 0, rfl, Nat.le_refl _, TextsAt.nil _, hR4, fun g hg => by simp [Value.ownBlock] at hg⟩
  · have hq : (E != 0) = true := by rw [bne_iff_ne]; exact hE
    have HEo := Lib.hid hE
    clear hE
    go_wp2_with (first
      | (go_at_call 134; with_reducible refine (err_any HR2.out).mono ?_; rintro e' w3 ⟨rfl, hw3⟩; have hw3 := hw3.symm; subst hw3; have hD4 := HD2.out.moves ((Moves.refl nobody W2).alloc (.cells #[.int .i64 er, .int .i64 0] 43)) (fun h => h); have hX4 := HX2.out.moves ((Moves.refl nobody W2).alloc (.cells #[.int .i64 er, .int .i64 0] 43)) (fun h => h); have c0 := hD4.cell 0; have c1 := hD4.cell 1; have c2 := hD4.cell 2; have c3 := hD4.cell 3; have s0 := hD4.frozen 0; have s1 := hD4.frozen 1; have s2 := hD4.frozen 2; have s3 := hD4.frozen 3; have y0 := hX4.cell 0; have y1 := hX4.cell 1; have y2 := hX4.cell 2; have y3 := hX4.cell 3)
      | (go_at_call 156; with_reducible refine (HC.out _ _ _ (HL.out _ _)).mono ?_; rintro e' w4 ⟨rfl, hw4⟩; have hw4 := hw4.symm; subst hw4))
    have hF := Holds.set (Holds.set (Holds.set (Holds.set hD4 0 (.int .u8 0)) 1 (.int .i64 0)) 2 (.string ⟨#[]⟩)) 3 (.slice none 0 0)
    have mf : Moves (fun i => i = w.heap.size) (W2.alloc (.cells #[.int .i64 er, .int .i64 0] 43)) _ := ((((Moves.refl (fun i => i = w.heap.size) _).setCell (p := ⟨w.heap.size, 0, none⟩) (.inl rfl) (.int .u8 0)).setCell (p := ⟨w.heap.size, 1, none⟩) (.inl rfl) (.int .i64 0)).setCell (p := ⟨w.heap.size, 2, none⟩) (.inl rfl) (.string ⟨#[]⟩)).setCell (p := ⟨w.heap.size, 3, none⟩) (.inl rfl) (.slice none 0 0)
    have mg := ((Moves.refl (fun i => i = w.heap.size) W2).alloc (.cells #[.int .i64 er, .int .i64 0] 43)).trans mf fun i h => .inl h
    have mm := HM2.out.trans mg fun i h => .inr (by rw [h]; exact Nat.le_refl _)
    try simp only [Exit.inBlock, Exit.then]
    refine bodyPost_ret (rdResults (p := 4) (u := 5) rfl _ _ w.heap.size _ _ (0, 0) _ rfl hF Tryz.underlying81 rfl (by kernel_rfl)) rfl ⟨mm, .inl ⟨by rw [← HEq.out]; exact HEo.out, ?_⟩⟩
    rw [← HEq.out]
    rfl
end Go.Proofs.YtlalkpgipenkaaaGreatDoor

namespace Go.Proofs.YtlalkpgipenkaaaGreatDoor
open Go.RowKit

theorem var_ne {w : World} {R : Nat} {r : List UInt8} {e : Int} (hV : VarAt w) (h : WAt w R r e) : 1 ≠ R := by
  rintro rfl
  obtain ⟨m, hm⟩ := hV
  have := Holds.cell h 0
  rw [hm] at this
  simp at this
theorem VarAt.moves {S : Nat → Prop} {w w' : World} (hV : VarAt w) (m : Moves S w w') (hS : ¬ S 1) : VarAt w' := by
  obtain ⟨x, hx⟩ := hV
  exact ⟨x, (m.cell (p := ⟨1, 0, none⟩) (World.block_lt_of_cell? w _ hx) hS).trans hx⟩

set_option maxRecDepth 100000 in
theorem read_b {w : World} {R : Nat} {rest : List UInt8} (h : WAt w R rest 0) (hr : rest.length ≤ 40000) :
    Calls Tryz.prog 127 #[.int .i32 98, .pointer (some ⟨R, 0, none⟩)] w (ReadPost R w (orE (boolP rest 0).2.2 0) ⟨98, cond (boolP rest 0).1 1 0, [], []⟩ (boolP rest 0).2.1) := by
  have HU : Hid (∀ W, Below w.heap.size w W → _) := fun (W : World) (hb : Below w.heap.size w W) => rBool_any (h.moves (Moves.ofBelow (S := nobody) hb) fun h => h) (show rest.length ≤ 1000000 by omega)
  generalize boolP rest 0 = p at *
  obtain ⟨b, r2, er⟩ := p
  simp only at *
  have hRl := h.lt
  have hD0 := ((Holds.new w 81 #[.int .u8 0, .int .i64 0, .string ⟨#[]⟩, .slice none 0 0])).moves ((Moves.refl nobody _).alloc (.cells #[.int .u8 98, .int .i64 0, .string ⟨#[]⟩, .slice none 0 0] 81)) (fun h => h)
  have hX0 := Holds.new (w.alloc (.cells #[.int .u8 0, .int .i64 0, .string ⟨#[]⟩, .slice none 0 0] 81)) 81 #[.int .u8 98, .int .i64 0, .string ⟨#[]⟩, .slice none 0 0]
  rw [World.size_alloc] at hX0
  have hm0 : Moves (fun k => k = R) w ((w.alloc (.cells #[.int .u8 0, .int .i64 0, .string ⟨#[]⟩, .slice none 0 0] 81)).alloc (.cells #[.int .u8 98, .int .i64 0, .string ⟨#[]⟩, .slice none 0 0] 81)) := ((Moves.refl (fun k => k = R) w).alloc _).alloc _
  have hb0 : Below w.heap.size w ((w.alloc (.cells #[.int .u8 0, .int .i64 0, .string ⟨#[]⟩, .slice none 0 0] 81)).alloc (.cells #[.int .u8 98, .int .i64 0, .string ⟨#[]⟩, .slice none 0 0] 81)) := ((Below.refl _ w).alloc (Nat.le_refl _) _).alloc (by simp) _
  have hs0 : ((w.alloc (.cells #[.int .u8 0, .int .i64 0, .string ⟨#[]⟩, .slice none 0 0] 81)).alloc (.cells #[.int .u8 98, .int .i64 0, .string ⟨#[]⟩, .slice none 0 0] 81)).heap.size = w.heap.size + 2 := by simp
  have HD0 := Lib.hid hD0
  have HX0 := Lib.hid hX0
  have HM0 := Lib.hid hm0
  have HUc := Lib.hid (HU.out _ hb0)
  have HB0 := Lib.hid hb0
  have HS0 := Lib.hid hs0
  clear hD0 hX0 hm0 hb0 hs0 HU h
  cases b with
  | true =>
    go_enter Tryz.func127, Tryz.ntmps127
    go_wp2_with (go_at_call 150; with_reducible refine HUc.out.mono ?_; rintro e' w1 ⟨rfl, h1, m1⟩; have hX1 := HX0.out.moves m1 (by omega); have z1 := hX1.cell 1; have t1 := hX1.frozen 1)
    have hm1 := HM0.out.trans m1 fun k h => .inl h
    have hD1 := HD0.out.moves m1 (by omega)
    have ms : Moves (fun i => i = w.heap.size + 1) w1 _ := ((Moves.refl (fun i => i = w.heap.size + 1) w1).setCell (p := ⟨w.heap.size + 1, 1, none⟩) (.inl rfl) (.int .i64 1))
    have HR2 : Hid (WAt _ R r2 er) := h1.moves ms (by omega)
    have HD2 := Lib.hid (hD1.moves ms (by omega))
    have HX2 := Lib.hid (Holds.set hX1 1 (.int .i64 1))
    have HM2 := Lib.hid (hm1.setCell (p := ⟨w.heap.size + 1, 1, none⟩) (.inr (by show w.heap.size ≤ w.heap.size + 1; omega)) (.int .i64 1))
    obtain ⟨W2, hW2⟩ : ∃ W2, W2 = (w1.setCell ⟨w.heap.size + 1, 1, none⟩ (.int .i64 1)) := ⟨_, rfl⟩
    rw [← hW2] at HR2 HD2 HX2 HM2 ⊢
    clear hW2 ms
    clear hm1 hD1 hX1 h1 m1
    have HL : Hid (∀ (W : World) (t : TypeId), Holds (W.alloc (.cells #[.int .i64 er, .int .i64 0] t)) W.heap.size t #[.int .i64 er, .int .i64 0]) := fun W t => Holds.new W t _
    obtain ⟨E, hEq⟩ : ∃ E, E = orE er 0 := ⟨_, rfl⟩
    have HEq := Lib.hid hEq
    have HC : Hid (∀ (W : World) (t : TypeId) (g : Nat) (h : Holds W g t #[.int .i64 er, .int .i64 0]), Calls Tryz.prog 156 #[.slice (some ⟨g, 0, none⟩) 2 2] W fun e w' => e = .returned (.int .i64 E) ∧ w' = W) := fun W t g h => by rw [hEq]; exact cmpOrE_any h
    clear hEq
    by_cases hE : E = 0
    · have hq : (E != 0) = false := by rw [hE]; rfl
      have HEo := Lib.hid hE
      clear hE
      go_wp2_with (first
        | (go_at_call 134; with_reducible refine (err_any HR2.out).mono ?_; rintro e' w3 ⟨rfl, hw3⟩; have hw3 := hw3.symm; subst hw3; have hD4 := HD2.out.moves ((Moves.refl nobody W2).alloc (.cells #[.int .i64 er, .int .i64 0] 43)) (fun h => h); have hX4 := HX2.out.moves ((Moves.refl nobody W2).alloc (.cells #[.int .i64 er, .int .i64 0] 43)) (fun h => h); have c0 := hD4.cell 0; have c1 := hD4.cell 1; have c2 := hD4.cell 2; have c3 := hD4.cell 3; have s0 := hD4.frozen 0; have s1 := hD4.frozen 1; have s2 := hD4.frozen 2; have s3 := hD4.frozen 3; have y0 := hX4.cell 0; have y1 := hX4.cell 1; have y2 := hX4.cell 2; have y3 := hX4.cell 3)
        | (go_at_call 156; with_reducible refine (HC.out _ _ _ (HL.out _ _)).mono ?_; rintro e' w4 ⟨rfl, hw4⟩; have hw4 := hw4.symm; subst hw4))
      have hF := Holds.set (Holds.set (Holds.set (Holds.set hD4 0 (.int .u8 98)) 1 (.int .i64 1)) 2 (.string ⟨#[]⟩)) 3 (.slice none 0 0)
      have mf : Moves (fun i => i = w.heap.size) (W2.alloc (.cells #[.int .i64 er, .int .i64 0] 43)) _ := ((((Moves.refl (fun i => i = w.heap.size) _).setCell (p := ⟨w.heap.size, 0, none⟩) (.inl rfl) (.int .u8 98)).setCell (p := ⟨w.heap.size, 1, none⟩) (.inl rfl) (.int .i64 1)).setCell (p := ⟨w.heap.size, 2, none⟩) (.inl rfl) (.string ⟨#[]⟩)).setCell (p := ⟨w.heap.size, 3, none⟩) (.inl rfl) (.slice none 0 0)
      have mg := ((Moves.refl (fun i => i = w.heap.size) W2).alloc (.cells #[.int .i64 er, .int .i64 0] 43)).trans mf fun i h => .inl h
      have mm := HM2.out.trans mg fun i h => .inr (by rw [h]; exact Nat.le_refl _)
      try simp only [Exit.inBlock, Exit.then]
      have hz := orE_zero (HEq.out.symm.trans HEo.out)
      have hR4 := WAt.err (Holds.moves HR2.out mg (by omega)) hz.1
      refine bodyPost_ret (rdResults (p := 4) (u := 5) rfl _ _ w.heap.size _ _ (0, 0) _ rfl hF Tryz.underlying81 rfl (by kernel_rfl)) rfl ⟨mm, .inr ⟨by rw [← HEq.out]; exact HEo.out, ?_⟩⟩
      exact ⟨none, 0, rfl, Nat.le_refl _, TextsAt.nil _, hR4, fun g hg => by simp [Value.ownBlock] at hg⟩
    · have hq : (E != 0) = true := by rw [bne_iff_ne]; exact hE
      have HEo := Lib.hid hE
      clear hE
      go_wp2_with (first
        | (go_at_call 134; with_reducible refine (err_any HR2.out).mono ?_; rintro e' w3 ⟨rfl, hw3⟩; have hw3 := hw3.symm; subst hw3; have hD4 := HD2.out.moves ((Moves.refl nobody W2).alloc (.cells #[.int .i64 er, .int .i64 0] 43)) (fun h => h); have hX4 := HX2.out.moves ((Moves.refl nobody W2).alloc (.cells #[.int .i64 er, .int .i64 0] 43)) (fun h => h); have c0 := hD4.cell 0; have c1 := hD4.cell 1; have c2 := hD4.cell 2; have c3 := hD4.cell 3; have s0 := hD4.frozen 0; have s1 := hD4.frozen 1; have s2 := hD4.frozen 2; have s3 := hD4.frozen 3; have y0 := hX4.cell 0; have y1 := hX4.cell 1; have y2 := hX4.cell 2; have y3 := hX4.cell 3)
        | (go_at_call 156; with_reducible refine (HC.out _ _ _ (HL.out _ _)).mono ?_; rintro e' w4 ⟨rfl, hw4⟩; have hw4 := hw4.symm; subst hw4))
      have hF := Holds.set (Holds.set (Holds.set (Holds.set hD4 0 (.int .u8 0)) 1 (.int .i64 0)) 2 (.string ⟨#[]⟩)) 3 (.slice none 0 0)
      have mf : Moves (fun i => i = w.heap.size) (W2.alloc (.cells #[.int .i64 er, .int .i64 0] 43)) _ := ((((Moves.refl (fun i => i = w.heap.size) _).setCell (p := ⟨w.heap.size, 0, none⟩) (.inl rfl) (.int .u8 0)).setCell (p := ⟨w.heap.size, 1, none⟩) (.inl rfl) (.int .i64 0)).setCell (p := ⟨w.heap.size, 2, none⟩) (.inl rfl) (.string ⟨#[]⟩)).setCell (p := ⟨w.heap.size, 3, none⟩) (.inl rfl) (.slice none 0 0)
      have mg := ((Moves.refl (fun i => i = w.heap.size) W2).alloc (.cells #[.int .i64 er, .int .i64 0] 43)).trans mf fun i h => .inl h
      have mm := HM2.out.trans mg fun i h => .inr (by rw [h]; exact Nat.le_refl _)
      try simp only [Exit.inBlock, Exit.then]
      refine bodyPost_ret (rdResults (p := 4) (u := 5) rfl _ _ w.heap.size _ _ (0, 0) _ rfl hF Tryz.underlying81 rfl (by kernel_rfl)) rfl ⟨mm, .inl ⟨by rw [← HEq.out]; exact HEo.out, ?_⟩⟩
      rw [← HEq.out]
      rfl
  | false =>
    go_enter Tryz.func127, Tryz.ntmps127
    go_wp2_with (go_at_call 150; with_reducible refine HUc.out.mono ?_; rintro e' w1 ⟨rfl, h1, m1⟩; have hX1 := HX0.out.moves m1 (by omega); have z1 := hX1.cell 1; have t1 := hX1.frozen 1)
    have hm1 := HM0.out.trans m1 fun k h => .inl h
    have hD1 := HD0.out.moves m1 (by omega)
    have HR2 : Hid (WAt w1 R r2 er) := h1
    have HD2 := Lib.hid hD1
    have HX2 := Lib.hid hX1
    have HM2 := Lib.hid hm1
    have hw12 := rfl (a := w1)
    obtain ⟨W2, hW2⟩ : ∃ W2, W2 = w1 := ⟨_, rfl⟩
    rw [← hW2] at HR2 HD2 HX2 HM2 ⊢
    clear hw12 hW2
    clear hm1 hD1 hX1 h1 m1
    have HL : Hid (∀ (W : World) (t : TypeId), Holds (W.alloc (.cells #[.int .i64 er, .int .i64 0] t)) W.heap.size t #[.int .i64 er, .int .i64 0]) := fun W t => Holds.new W t _
    obtain ⟨E, hEq⟩ : ∃ E, E = orE er 0 := ⟨_, rfl⟩
    have HEq := Lib.hid hEq
    have HC : Hid (∀ (W : World) (t : TypeId) (g : Nat) (h : Holds W g t #[.int .i64 er, .int .i64 0]), Calls Tryz.prog 156 #[.slice (some ⟨g, 0, none⟩) 2 2] W fun e w' => e = .returned (.int .i64 E) ∧ w' = W) := fun W t g h => by rw [hEq]; exact cmpOrE_any h
    clear hEq
    by_cases hE : E = 0
    · have hq : (E != 0) = false := by rw [hE]; rfl
      have HEo := Lib.hid hE
      clear hE
      go_wp2_with (first
        | (go_at_call 134; with_reducible refine (err_any HR2.out).mono ?_; rintro e' w3 ⟨rfl, hw3⟩; have hw3 := hw3.symm; subst hw3; have hD4 := HD2.out.moves ((Moves.refl nobody W2).alloc (.cells #[.int .i64 er, .int .i64 0] 43)) (fun h => h); have hX4 := HX2.out.moves ((Moves.refl nobody W2).alloc (.cells #[.int .i64 er, .int .i64 0] 43)) (fun h => h); have c0 := hD4.cell 0; have c1 := hD4.cell 1; have c2 := hD4.cell 2; have c3 := hD4.cell 3; have s0 := hD4.frozen 0; have s1 := hD4.frozen 1; have s2 := hD4.frozen 2; have s3 := hD4.frozen 3; have y0 := hX4.cell 0; have y1 := hX4.cell 1; have y2 := hX4.cell 2; have y3 := hX4.cell 3)
        | (go_at_call 156; with_reducible refine (HC.out _ _ _ (HL.out _ _)).mono ?_; rintro e' w4 ⟨rfl, hw4⟩; have hw4 := hw4.symm; subst hw4))
      have hF := Holds.set (Holds.set (Holds.set (Holds.set hD4 0 (.int .u8 98)) 1 (.int .i64 0)) 2 (.string ⟨#[]⟩)) 3 (.slice none 0 0)
      have mf : Moves (fun i => i = w.heap.size) (W2.alloc (.cells #[.int .i64 er, .int .i64 0] 43)) _ := ((((Moves.refl (fun i => i = w.heap.size) _).setCell (p := ⟨w.heap.size, 0, none⟩) (.inl rfl) (.int .u8 98)).setCell (p := ⟨w.heap.size, 1, none⟩) (.inl rfl) (.int .i64 0)).setCell (p := ⟨w.heap.size, 2, none⟩) (.inl rfl) (.string ⟨#[]⟩)).setCell (p := ⟨w.heap.size, 3, none⟩) (.inl rfl) (.slice none 0 0)
      have mg := ((Moves.refl (fun i => i = w.heap.size) W2).alloc (.cells #[.int .i64 er, .int .i64 0] 43)).trans mf fun i h => .inl h
      have mm := HM2.out.trans mg fun i h => .inr (by rw [h]; exact Nat.le_refl _)
      try simp only [Exit.inBlock, Exit.then]
      have hz := orE_zero (HEq.out.symm.trans HEo.out)
      have hR4 := WAt.err (Holds.moves HR2.out mg (by omega)) hz.1
      refine bodyPost_ret (rdResults (p := 4) (u := 5) rfl _ _ w.heap.size _ _ (0, 0) _ rfl hF Tryz.underlying81 rfl (by kernel_rfl)) rfl ⟨mm, .inr ⟨by rw [← HEq.out]; exact HEo.out, ?_⟩⟩
      exact ⟨none, 0, rfl, Nat.le_refl _, TextsAt.nil _, hR4, fun g hg => by simp [Value.ownBlock] at hg⟩
    · have hq : (E != 0) = true := by rw [bne_iff_ne]; exact hE
      have HEo := Lib.hid hE
      clear hE
      go_wp2_with (first
        | (go_at_call 134; with_reducible refine (err_any HR2.out).mono ?_; rintro e' w3 ⟨rfl, hw3⟩; have hw3 := hw3.symm; subst hw3; have hD4 := HD2.out.moves ((Moves.refl nobody W2).alloc (.cells #[.int .i64 er, .int .i64 0] 43)) (fun h => h); have hX4 := HX2.out.moves ((Moves.refl nobody W2).alloc (.cells #[.int .i64 er, .int .i64 0] 43)) (fun h => h); have c0 := hD4.cell 0; have c1 := hD4.cell 1; have c2 := hD4.cell 2; have c3 := hD4.cell 3; have s0 := hD4.frozen 0; have s1 := hD4.frozen 1; have s2 := hD4.frozen 2; have s3 := hD4.frozen 3; have y0 := hX4.cell 0; have y1 := hX4.cell 1; have y2 := hX4.cell 2; have y3 := hX4.cell 3)
        | (go_at_call 156; with_reducible refine (HC.out _ _ _ (HL.out _ _)).mono ?_; rintro e' w4 ⟨rfl, hw4⟩; have hw4 := hw4.symm; subst hw4))
      have hF := Holds.set (Holds.set (Holds.set (Holds.set hD4 0 (.int .u8 0)) 1 (.int .i64 0)) 2 (.string ⟨#[]⟩)) 3 (.slice none 0 0)
      have mf : Moves (fun i => i = w.heap.size) (W2.alloc (.cells #[.int .i64 er, .int .i64 0] 43)) _ := ((((Moves.refl (fun i => i = w.heap.size) _).setCell (p := ⟨w.heap.size, 0, none⟩) (.inl rfl) (.int .u8 0)).setCell (p := ⟨w.heap.size, 1, none⟩) (.inl rfl) (.int .i64 0)).setCell (p := ⟨w.heap.size, 2, none⟩) (.inl rfl) (.string ⟨#[]⟩)).setCell (p := ⟨w.heap.size, 3, none⟩) (.inl rfl) (.slice none 0 0)
      have mg := ((Moves.refl (fun i => i = w.heap.size) W2).alloc (.cells #[.int .i64 er, .int .i64 0] 43)).trans mf fun i h => .inl h
      have mm := HM2.out.trans mg fun i h => .inr (by rw [h]; exact Nat.le_refl _)
      try simp only [Exit.inBlock, Exit.then]
      refine bodyPost_ret (rdResults (p := 4) (u := 5) rfl _ _ w.heap.size _ _ (0, 0) _ rfl hF Tryz.underlying81 rfl (by kernel_rfl)) rfl ⟨mm, .inl ⟨by rw [← HEq.out]; exact HEo.out, ?_⟩⟩
      rw [← HEq.out]
      rfl

set_option maxRecDepth 100000 in
theorem read_n {w : World} {R : Nat} {rest : List UInt8} (h : WAt w R rest 0) (hr : rest.length ≤ 40000) (hV : VarAt w) :
    Calls Tryz.prog 127 #[.int .i32 110, .pointer (some ⟨R, 0, none⟩)] w (ReadPost R w (orE (countedP anyR rest 0).2.2 ((splitP (countedP anyR rest 0).1).2 : Int)) ⟨110, 0, [], (splitP (countedP anyR rest 0).1).1⟩ (countedP anyR rest 0).2.1) := by
  have HU : Hid (∀ W, Below w.heap.size w W → _) := fun (W : World) (hb : Below w.heap.size w W) => rText_any (h.moves (Moves.ofBelow (S := nobody) hb) fun h => h) (show rest.length ≤ 1000000 by omega)
  have hwd := countedP_word anyR rest 0
  have hne := var_ne hV h
  have HVar := Lib.hid hV
  have HNe := Lib.hid hne
  generalize countedP anyR rest 0 = p at *
  obtain ⟨s, r2, er⟩ := p
  simp only at *
  have HSp := Lib.hid (fun (W : World) (hW : VarAt W) => nSplit_new s (by omega) W hW)
  generalize splitP s = q at *
  obtain ⟨l, c⟩ := q
  simp only at HSp ⊢
  clear hne hV hwd
  have hRl := h.lt
  have hD0 := ((Holds.new w 81 #[.int .u8 0, .int .i64 0, .string ⟨#[]⟩, .slice none 0 0])).moves ((Moves.refl nobody _).alloc (.cells #[.int .u8 110, .int .i64 0, .string ⟨#[]⟩, .slice none 0 0] 81)) (fun h => h)
  have hX0 := Holds.new (w.alloc (.cells #[.int .u8 0, .int .i64 0, .string ⟨#[]⟩, .slice none 0 0] 81)) 81 #[.int .u8 110, .int .i64 0, .string ⟨#[]⟩, .slice none 0 0]
  rw [World.size_alloc] at hX0
  have hm0 : Moves (fun k => k = R) w ((w.alloc (.cells #[.int .u8 0, .int .i64 0, .string ⟨#[]⟩, .slice none 0 0] 81)).alloc (.cells #[.int .u8 110, .int .i64 0, .string ⟨#[]⟩, .slice none 0 0] 81)) := ((Moves.refl (fun k => k = R) w).alloc _).alloc _
  have hb0 : Below w.heap.size w ((w.alloc (.cells #[.int .u8 0, .int .i64 0, .string ⟨#[]⟩, .slice none 0 0] 81)).alloc (.cells #[.int .u8 110, .int .i64 0, .string ⟨#[]⟩, .slice none 0 0] 81)) := ((Below.refl _ w).alloc (Nat.le_refl _) _).alloc (by simp) _
  have hs0 : ((w.alloc (.cells #[.int .u8 0, .int .i64 0, .string ⟨#[]⟩, .slice none 0 0] 81)).alloc (.cells #[.int .u8 110, .int .i64 0, .string ⟨#[]⟩, .slice none 0 0] 81)).heap.size = w.heap.size + 2 := by simp
  have HD0 := Lib.hid hD0
  have HX0 := Lib.hid hX0
  have HM0 := Lib.hid hm0
  have HUc := Lib.hid (HU.out _ hb0)
  have HB0 := Lib.hid hb0
  have HS0 := Lib.hid hs0
  clear hD0 hX0 hm0 hb0 hs0 HU h
  go_enter Tryz.func127, Tryz.ntmps127
  go_wp2_with (go_at_call 151; with_reducible refine HUc.out.mono ?_; rintro e' w1 ⟨rfl, h1, m1⟩; have hm1 := HM0.out.trans m1 (fun k h => .inl h); have hV1 := HVar.out.moves hm1 HNe.out)
  go_at_call 154
  refine (HSp.out _ hV1).mono ?_
  rintro e' w5 ⟨u, rfl, hu, hcap, b5, hnw⟩
  have m5 := m1.trans (Moves.ofBelow (S := nobody) b5) (fun k h => h.elim)
  have h5 : WAt w5 R r2 er := Holds.moves h1 (Moves.ofBelow (S := nobody) b5) (fun h => h)
  have hX5 := HX0.out.moves m5 (by omega)
  have z1 := hX5.cell 3
  have t1 := hX5.frozen 3
  have hs1 := m1.size
  have HNw : Hid (∀ g, u.ownBlock = some g → w.heap.size + 1 < g) := fun g hg => by have := hnw g hg; have := HS0.out; omega
  clear hnw hs1 h1 m1 hm1 hV1 b5
  obtain ⟨ao, cap, rfl, hcells⟩ := id hu
  rw [List.length_map] at *
  have hcap' : l.length ≤ cap := hcap ao cap rfl
  have HCap := Lib.hid hcap'
  have HTx5 := Lib.hid hu
  clear hcap hcap' hu hcells
  go_wp2_with fail
  have hm5 := HM0.out.trans m5 fun k h => .inl h
  have hD5 := HD0.out.moves m5 (by omega)
  have ms : Moves (fun i => i = w.heap.size + 1) w5 _ := ((Moves.refl (fun i => i = w.heap.size + 1) w5).setCell (p := ⟨w.heap.size + 1, 3, none⟩) (.inl rfl) (.slice ao l.length cap))
  have HR2 : Hid (WAt _ R r2 er) := h5.moves ms (by omega)
  have HD2 := Lib.hid (hD5.moves ms (by omega))
  have HX2 := Lib.hid (Holds.set hX5 3 (.slice ao l.length cap))
  have HM2 := Lib.hid (hm5.setCell (p := ⟨w.heap.size + 1, 3, none⟩) (.inr (by show w.heap.size ≤ w.heap.size + 1; omega)) (.slice ao l.length cap))
  have HTx := Lib.hid (HTx5.out.moves ms (fun g hg => by have := HNw.out g hg; omega))
  obtain ⟨W2, hW2⟩ : ∃ W2, W2 = (w5.setCell ⟨w.heap.size + 1, 3, none⟩ (.slice ao l.length cap)) := ⟨_, rfl⟩
  rw [← hW2] at HR2 HD2 HX2 HM2 HTx ⊢
  clear hW2 ms
  clear hm5 hD5 hX5 h5 m5
  have HL : Hid (∀ (W : World) (t : TypeId), Holds (W.alloc (.cells #[.int .i64 er, .int .i64 (c : Int)] t)) W.heap.size t #[.int .i64 er, .int .i64 (c : Int)]) := fun W t => Holds.new W t _
  obtain ⟨E, hEq⟩ : ∃ E, E = orE er (c : Int) := ⟨_, rfl⟩
  have HEq := Lib.hid hEq
  have HC : Hid (∀ (W : World) (t : TypeId) (g : Nat) (h : Holds W g t #[.int .i64 er, .int .i64 (c : Int)]), Calls Tryz.prog 156 #[.slice (some ⟨g, 0, none⟩) 2 2] W fun e w' => e = .returned (.int .i64 E) ∧ w' = W) := fun W t g h => by rw [hEq]; exact cmpOrE_any h
  clear hEq
  by_cases hE : E = 0
  · have hq : (E != 0) = false := by rw [hE]; rfl
    have HEo := Lib.hid hE
    clear hE
    go_wp2_with (first
      | (go_at_call 134; with_reducible refine (err_any HR2.out).mono ?_; rintro e' w3 ⟨rfl, hw3⟩; have hw3 := hw3.symm; subst hw3; have hD4 := HD2.out.moves ((Moves.refl nobody W2).alloc (.cells #[.int .i64 er, .int .i64 (c : Int)] 43)) (fun h => h); have hX4 := HX2.out.moves ((Moves.refl nobody W2).alloc (.cells #[.int .i64 er, .int .i64 (c : Int)] 43)) (fun h => h); have c0 := hD4.cell 0; have c1 := hD4.cell 1; have c2 := hD4.cell 2; have c3 := hD4.cell 3; have s0 := hD4.frozen 0; have s1 := hD4.frozen 1; have s2 := hD4.frozen 2; have s3 := hD4.frozen 3; have y0 := hX4.cell 0; have y1 := hX4.cell 1; have y2 := hX4.cell 2; have y3 := hX4.cell 3)
      | (go_at_call 156; with_reducible refine (HC.out _ _ _ (HL.out _ _)).mono ?_; rintro e' w4 ⟨rfl, hw4⟩; have hw4 := hw4.symm; subst hw4))
    have hF := Holds.set (Holds.set (Holds.set (Holds.set hD4 0 (.int .u8 110)) 1 (.int .i64 0)) 2 (.string ⟨#[]⟩)) 3 (.slice ao l.length cap)
    have mf : Moves (fun i => i = w.heap.size) (W2.alloc (.cells #[.int .i64 er, .int .i64 (c : Int)] 43)) _ := ((((Moves.refl (fun i => i = w.heap.size) _).setCell (p := ⟨w.heap.size, 0, none⟩) (.inl rfl) (.int .u8 110)).setCell (p := ⟨w.heap.size, 1, none⟩) (.inl rfl) (.int .i64 0)).setCell (p := ⟨w.heap.size, 2, none⟩) (.inl rfl) (.string ⟨#[]⟩)).setCell (p := ⟨w.heap.size, 3, none⟩) (.inl rfl) (.slice ao l.length cap)
    have mg := ((Moves.refl (fun i => i = w.heap.size) W2).alloc (.cells #[.int .i64 er, .int .i64 (c : Int)] 43)).trans mf fun i h => .inl h
    have mm := HM2.out.trans mg fun i h => .inr (by rw [h]; exact Nat.le_refl _)
    try simp only [Exit.inBlock, Exit.then]
    have hz := orE_zero (HEq.out.symm.trans HEo.out)
    have hR4 := WAt.err (Holds.moves HR2.out mg (by omega)) hz.1
    refine bodyPost_ret (rdResults (p := 4) (u := 5) rfl _ _ w.heap.size _ _ (0, 0) _ rfl hF Tryz.underlying81 rfl (by kernel_rfl)) rfl ⟨mm, .inr ⟨by rw [← HEq.out]; exact HEo.out, ?_⟩⟩
    exact ⟨ao, cap, rfl, HCap.out, HTx.out.moves mg (fun g hg => by have := HNw.out g hg; omega), hR4, fun g hg => by have := HNw.out g hg; omega⟩
  · have hq : (E != 0) = true := by rw [bne_iff_ne]; exact hE
    have HEo := Lib.hid hE
    clear hE
    go_wp2_with (first
      | (go_at_call 134; with_reducible refine (err_any HR2.out).mono ?_; rintro e' w3 ⟨rfl, hw3⟩; have hw3 := hw3.symm; subst hw3; have hD4 := HD2.out.moves ((Moves.refl nobody W2).alloc (.cells #[.int .i64 er, .int .i64 (c : Int)] 43)) (fun h => h); have hX4 := HX2.out.moves ((Moves.refl nobody W2).alloc (.cells #[.int .i64 er, .int .i64 (c : Int)] 43)) (fun h => h); have c0 := hD4.cell 0; have c1 := hD4.cell 1; have c2 := hD4.cell 2; have c3 := hD4.cell 3; have s0 := hD4.frozen 0; have s1 := hD4.frozen 1; have s2 := hD4.frozen 2; have s3 := hD4.frozen 3; have y0 := hX4.cell 0; have y1 := hX4.cell 1; have y2 := hX4.cell 2; have y3 := hX4.cell 3)
      | (go_at_call 156; with_reducible refine (HC.out _ _ _ (HL.out _ _)).mono ?_; rintro e' w4 ⟨rfl, hw4⟩; have hw4 := hw4.symm; subst hw4))
    have hF := Holds.set (Holds.set (Holds.set (Holds.set hD4 0 (.int .u8 0)) 1 (.int .i64 0)) 2 (.string ⟨#[]⟩)) 3 (.slice none 0 0)
    have mf : Moves (fun i => i = w.heap.size) (W2.alloc (.cells #[.int .i64 er, .int .i64 (c : Int)] 43)) _ := ((((Moves.refl (fun i => i = w.heap.size) _).setCell (p := ⟨w.heap.size, 0, none⟩) (.inl rfl) (.int .u8 0)).setCell (p := ⟨w.heap.size, 1, none⟩) (.inl rfl) (.int .i64 0)).setCell (p := ⟨w.heap.size, 2, none⟩) (.inl rfl) (.string ⟨#[]⟩)).setCell (p := ⟨w.heap.size, 3, none⟩) (.inl rfl) (.slice none 0 0)
    have mg := ((Moves.refl (fun i => i = w.heap.size) W2).alloc (.cells #[.int .i64 er, .int .i64 (c : Int)] 43)).trans mf fun i h => .inl h
    have mm := HM2.out.trans mg fun i h => .inr (by rw [h]; exact Nat.le_refl _)
    try simp only [Exit.inBlock, Exit.then]
    refine bodyPost_ret (rdResults (p := 4) (u := 5) rfl _ _ w.heap.size _ _ (0, 0) _ rfl hF Tryz.underlying81 rfl (by kernel_rfl)) rfl ⟨mm, .inl ⟨by rw [← HEq.out]; exact HEo.out, ?_⟩⟩
    rw [← HEq.out]
    rfl

set_option maxRecDepth 100000 in
theorem read_e {w : World} {R : Nat} {rest : List UInt8} (h : WAt w R rest 0) (hr : rest.length ≤ 40000) :
    Calls Tryz.prog 127 #[.int .i32 101, .pointer (some ⟨R, 0, none⟩)] w (ReadPost R w (orE (extsQ rest).2.2.2 (extsQ rest).1) ⟨101, 0, [], (extsQ rest).2.1⟩ (extsQ rest).2.2.1) := by
  have HU : Hid (∀ W, Below w.heap.size w W → _) := fun (W : World) (hb : Below w.heap.size w W) => rExts_any (h.moves (Moves.ofBelow (S := nobody) hb) fun h => h) (show rest.length ≤ 40000 by omega)
  generalize extsQ rest = q at *
  obtain ⟨c, l, r2, er⟩ := q
  simp only at *
  have hRl := h.lt
  have hD0 := ((Holds.new w 81 #[.int .u8 0, .int .i64 0, .string ⟨#[]⟩, .slice none 0 0])).moves ((Moves.refl nobody _).alloc (.cells #[.int .u8 101, .int .i64 0, .string ⟨#[]⟩, .slice none 0 0] 81)) (fun h => h)
  have hX0 := Holds.new (w.alloc (.cells #[.int .u8 0, .int .i64 0, .string ⟨#[]⟩, .slice none 0 0] 81)) 81 #[.int .u8 101, .int .i64 0, .string ⟨#[]⟩, .slice none 0 0]
  rw [World.size_alloc] at hX0
  have hm0 : Moves (fun k => k = R) w ((w.alloc (.cells #[.int .u8 0, .int .i64 0, .string ⟨#[]⟩, .slice none 0 0] 81)).alloc (.cells #[.int .u8 101, .int .i64 0, .string ⟨#[]⟩, .slice none 0 0] 81)) := ((Moves.refl (fun k => k = R) w).alloc _).alloc _
  have hb0 : Below w.heap.size w ((w.alloc (.cells #[.int .u8 0, .int .i64 0, .string ⟨#[]⟩, .slice none 0 0] 81)).alloc (.cells #[.int .u8 101, .int .i64 0, .string ⟨#[]⟩, .slice none 0 0] 81)) := ((Below.refl _ w).alloc (Nat.le_refl _) _).alloc (by simp) _
  have hs0 : ((w.alloc (.cells #[.int .u8 0, .int .i64 0, .string ⟨#[]⟩, .slice none 0 0] 81)).alloc (.cells #[.int .u8 101, .int .i64 0, .string ⟨#[]⟩, .slice none 0 0] 81)).heap.size = w.heap.size + 2 := by simp
  have HD0 := Lib.hid hD0
  have HX0 := Lib.hid hX0
  have HM0 := Lib.hid hm0
  have HUc := Lib.hid (HU.out _ hb0)
  have HB0 := Lib.hid hb0
  have HS0 := Lib.hid hs0
  clear hD0 hX0 hm0 hb0 hs0 HU h
  go_enter Tryz.func127, Tryz.ntmps127
  go_wp2_with fail
  go_at_call 155
  with_reducible refine HUc.out.mono ?_
  rintro e' w5 ⟨ao, cap, rfl, hu, hcap', h5, m5, hnw⟩
  have hX5 := HX0.out.moves m5 (by omega)
  have z1 := hX5.cell 3
  have t1 := hX5.frozen 3
  have HNw : Hid (∀ g, (Value.slice ao l.length cap).ownBlock = some g → w.heap.size + 1 < g) := fun g hg => by have := hnw g hg; have := HS0.out; omega
  have HCap := Lib.hid hcap'
  have HTx5 := Lib.hid hu
  clear hnw hcap' hu
  go_wp2_with fail
  have hm5 := HM0.out.trans m5 fun k h => .inl h
  have hD5 := HD0.out.moves m5 (by omega)
  have ms : Moves (fun i => i = w.heap.size + 1) w5 _ := ((Moves.refl (fun i => i = w.heap.size + 1) w5).setCell (p := ⟨w.heap.size + 1, 3, none⟩) (.inl rfl) (.slice ao l.length cap))
  have HR2 : Hid (WAt _ R r2 er) := h5.moves ms (by omega)
  have HD2 := Lib.hid (hD5.moves ms (by omega))
  have HX2 := Lib.hid (Holds.set hX5 3 (.slice ao l.length cap))
  have HM2 := Lib.hid (hm5.setCell (p := ⟨w.heap.size + 1, 3, none⟩) (.inr (by show w.heap.size ≤ w.heap.size + 1; omega)) (.slice ao l.length cap))
  have HTx := Lib.hid (HTx5.out.moves ms (fun g hg => by have := HNw.out g hg; omega))
  obtain ⟨W2, hW2⟩ : ∃ W2, W2 = (w5.setCell ⟨w.heap.size + 1, 3, none⟩ (.slice ao l.length cap)) := ⟨_, rfl⟩
  rw [← hW2] at HR2 HD2 HX2 HM2 HTx ⊢
  clear hW2 ms
  clear hm5 hD5 hX5 h5 m5
  have HL : Hid (∀ (W : World) (t : TypeId), Holds (W.alloc (.cells #[.int .i64 er, .int .i64 c] t)) W.heap.size t #[.int .i64 er, .int .i64 c]) := fun W t => Holds.new W t _
  obtain ⟨E, hEq⟩ : ∃ E, E = orE er c := ⟨_, rfl⟩
  have HEq := Lib.hid hEq
  have HC : Hid (∀ (W : World) (t : TypeId) (g : Nat) (h : Holds W g t #[.int .i64 er, .int .i64 c]), Calls Tryz.prog 156 #[.slice (some ⟨g, 0, none⟩) 2 2] W fun e w' => e = .returned (.int .i64 E) ∧ w' = W) := fun W t g h => by rw [hEq]; exact cmpOrE_any h
  clear hEq
  by_cases hE : E = 0
  · have hq : (E != 0) = false := by rw [hE]; rfl
    have HEo := Lib.hid hE
    clear hE
    go_wp2_with (first
      | (go_at_call 134; with_reducible refine (err_any HR2.out).mono ?_; rintro e' w3 ⟨rfl, hw3⟩; have hw3 := hw3.symm; subst hw3; have hD4 := HD2.out.moves ((Moves.refl nobody W2).alloc (.cells #[.int .i64 er, .int .i64 c] 43)) (fun h => h); have hX4 := HX2.out.moves ((Moves.refl nobody W2).alloc (.cells #[.int .i64 er, .int .i64 c] 43)) (fun h => h); have c0 := hD4.cell 0; have c1 := hD4.cell 1; have c2 := hD4.cell 2; have c3 := hD4.cell 3; have s0 := hD4.frozen 0; have s1 := hD4.frozen 1; have s2 := hD4.frozen 2; have s3 := hD4.frozen 3; have y0 := hX4.cell 0; have y1 := hX4.cell 1; have y2 := hX4.cell 2; have y3 := hX4.cell 3)
      | (go_at_call 156; with_reducible refine (HC.out _ _ _ (HL.out _ _)).mono ?_; rintro e' w4 ⟨rfl, hw4⟩; have hw4 := hw4.symm; subst hw4))
    have hF := Holds.set (Holds.set (Holds.set (Holds.set hD4 0 (.int .u8 101)) 1 (.int .i64 0)) 2 (.string ⟨#[]⟩)) 3 (.slice ao l.length cap)
    have mf : Moves (fun i => i = w.heap.size) (W2.alloc (.cells #[.int .i64 er, .int .i64 c] 43)) _ := ((((Moves.refl (fun i => i = w.heap.size) _).setCell (p := ⟨w.heap.size, 0, none⟩) (.inl rfl) (.int .u8 101)).setCell (p := ⟨w.heap.size, 1, none⟩) (.inl rfl) (.int .i64 0)).setCell (p := ⟨w.heap.size, 2, none⟩) (.inl rfl) (.string ⟨#[]⟩)).setCell (p := ⟨w.heap.size, 3, none⟩) (.inl rfl) (.slice ao l.length cap)
    have mg := ((Moves.refl (fun i => i = w.heap.size) W2).alloc (.cells #[.int .i64 er, .int .i64 c] 43)).trans mf fun i h => .inl h
    have mm := HM2.out.trans mg fun i h => .inr (by rw [h]; exact Nat.le_refl _)
    try simp only [Exit.inBlock, Exit.then]
    have hz := orE_zero (HEq.out.symm.trans HEo.out)
    have hR4 := WAt.err (Holds.moves HR2.out mg (by omega)) hz.1
    refine bodyPost_ret (rdResults (p := 4) (u := 5) rfl _ _ w.heap.size _ _ (0, 0) _ rfl hF Tryz.underlying81 rfl (by kernel_rfl)) rfl ⟨mm, .inr ⟨by rw [← HEq.out]; exact HEo.out, ?_⟩⟩
    exact ⟨ao, cap, rfl, HCap.out, HTx.out.moves mg (fun g hg => by have := HNw.out g hg; omega), hR4, fun g hg => by have := HNw.out g hg; omega⟩
  · have hq : (E != 0) = true := by rw [bne_iff_ne]; exact hE
    have HEo := Lib.hid hE
    clear hE
    go_wp2_with (first
      | (go_at_call 134; with_reducible refine (err_any HR2.out).mono ?_; rintro e' w3 ⟨rfl, hw3⟩; have hw3 := hw3.symm; subst hw3; have hD4 := HD2.out.moves ((Moves.refl nobody W2).alloc (.cells #[.int .i64 er, .int .i64 c] 43)) (fun h => h); have hX4 := HX2.out.moves ((Moves.refl nobody W2).alloc (.cells #[.int .i64 er, .int .i64 c] 43)) (fun h => h); have c0 := hD4.cell 0; have c1 := hD4.cell 1; have c2 := hD4.cell 2; have c3 := hD4.cell 3; have s0 := hD4.frozen 0; have s1 := hD4.frozen 1; have s2 := hD4.frozen 2; have s3 := hD4.frozen 3; have y0 := hX4.cell 0; have y1 := hX4.cell 1; have y2 := hX4.cell 2; have y3 := hX4.cell 3)
      | (go_at_call 156; with_reducible refine (HC.out _ _ _ (HL.out _ _)).mono ?_; rintro e' w4 ⟨rfl, hw4⟩; have hw4 := hw4.symm; subst hw4))
    have hF := Holds.set (Holds.set (Holds.set (Holds.set hD4 0 (.int .u8 0)) 1 (.int .i64 0)) 2 (.string ⟨#[]⟩)) 3 (.slice none 0 0)
    have mf : Moves (fun i => i = w.heap.size) (W2.alloc (.cells #[.int .i64 er, .int .i64 c] 43)) _ := ((((Moves.refl (fun i => i = w.heap.size) _).setCell (p := ⟨w.heap.size, 0, none⟩) (.inl rfl) (.int .u8 0)).setCell (p := ⟨w.heap.size, 1, none⟩) (.inl rfl) (.int .i64 0)).setCell (p := ⟨w.heap.size, 2, none⟩) (.inl rfl) (.string ⟨#[]⟩)).setCell (p := ⟨w.heap.size, 3, none⟩) (.inl rfl) (.slice none 0 0)
    have mg := ((Moves.refl (fun i => i = w.heap.size) W2).alloc (.cells #[.int .i64 er, .int .i64 c] 43)).trans mf fun i h => .inl h
    have mm := HM2.out.trans mg fun i h => .inr (by rw [h]; exact Nat.le_refl _)
    try simp only [Exit.inBlock, Exit.then]
    refine bodyPost_ret (rdResults (p := 4) (u := 5) rfl _ _ w.heap.size _ _ (0, 0) _ rfl hF Tryz.underlying81 rfl (by kernel_rfl)) rfl ⟨mm, .inl ⟨by rw [← HEq.out]; exact HEo.out, ?_⟩⟩
    rw [← HEq.out]
    rfl

/-- What a value of a letter reads as: the error, the field, what is left. -/
def readP (k : UInt8) (rest : List UInt8) : Int × FieldR × List UInt8 :=
  if k = 98 then (orE (boolP rest 0).2.2 0, ⟨98, cond (boolP rest 0).1 1 0, [], []⟩, (boolP rest 0).2.1)
  else if k = 117 then (orE (u32Q rest 0).2.2 0, ⟨117, ((u32Q rest 0).1 : Int), [], []⟩, (u32Q rest 0).2.1)
  else if k = 109 then (orE (countedP wholeR rest 0).2.2 0, ⟨109, 0, plainL (countedP wholeR rest 0).1, []⟩, (countedP wholeR rest 0).2.1)
  else if k = 110 then (orE (countedP anyR rest 0).2.2 ((splitP (countedP anyR rest 0).1).2 : Int), ⟨110, 0, [], (splitP (countedP anyR rest 0).1).1⟩, (countedP anyR rest 0).2.1)
  else if k = 99 then (orE (fixedP anyR 16 rest 0).2.2 0, ⟨99, 0, (fixedP anyR 16 rest 0).1, []⟩, (fixedP anyR 16 rest 0).2.1)
  else if k = 101 then (orE (extsQ rest).2.2.2 (extsQ rest).1, ⟨101, 0, [], (extsQ rest).2.1⟩, (extsQ rest).2.2.1)
  else (orE (countedP anyR rest 0).2.2 0, ⟨k, 0, (countedP anyR rest 0).1, []⟩, (countedP anyR rest 0).2.1)
def letters8 : List UInt8 := [98, 115, 117, 109, 110, 99, 116, 101]
theorem splitP_in (s : List UInt8) : (splitP s).1.length ≤ 16 ∧ ∀ y ∈ (splitP s).1, y.length ≤ 64 := by
  unfold splitP
  split
  · exact ⟨by simp, by simp⟩
  · split
    · rename_i h
      have := check_all h
      refine ⟨this.1, fun y hy => ?_⟩
      have hr := this.2 y hy
      unfold rightL at hr
      simp only [Bool.and_eq_true, decide_eq_true_eq] at hr
      exact hr.1.2
    · exact ⟨by simp, by simp⟩
theorem extsQ_in (rest : List UInt8) : (extsQ rest).2.1.length ≤ 16 ∧ (∀ y ∈ (extsQ rest).2.1, y.length ≤ rest.length) ∧ (extsQ rest).2.2.1.length ≤ rest.length := by
  have hr : (u32Q rest 0).2.1.length ≤ rest.length := fixedP_rest _ _ _ _
  unfold extsQ
  split
  · exact ⟨by simp, by simp, hr⟩
  · rename_i h
    exact ⟨by rw [textsP_len]; omega, fun y hy => Nat.le_trans (textsP_word _ _ _ y hy) hr, Nat.le_trans (textsP_rest _ _ _) hr⟩
theorem readP_rest (k : UInt8) (rest : List UInt8) : (readP k rest).2.2.length ≤ rest.length := by
  unfold readP
  split
  · exact fixedP_rest _ _ _ _
  · split
    · exact fixedP_rest _ _ _ _
    · split
      · exact countedP_rest _ _ _
      · split
        · exact countedP_rest _ _ _
        · split
          · exact fixedP_rest _ _ _ _
          · split
            · exact (extsQ_in rest).2.2
            · exact countedP_rest _ _ _
/-- What is read: in range, and no longer than what was there. -/
structure FieldSm (m : Nat) (x : FieldR) : Prop where
  n : 0 ≤ x.n ∧ x.n ≤ 4294967295
  s : x.s.length ≤ m
  l : x.l.length ≤ 16
  ls : ∀ y ∈ x.l, y.length ≤ m + 64
theorem readP_in (k : UInt8) (rest : List UInt8) : FieldSm rest.length (readP k rest).2.1 := by
  have hb : ∀ b : Bool, 0 ≤ (cond b 1 0 : Int) ∧ (cond b 1 0 : Int) ≤ 4294967295 := fun b => by cases b <;> decide
  have hc := countedP_word anyR rest 0
  have hw := countedP_word wholeR rest 0
  have hpl := plainL_le (countedP wholeR rest 0).1
  have hf := fixedP_word anyR 16 rest 0
  have hs := splitP_in (countedP anyR rest 0).1
  have he := extsQ_in rest
  have hu := u32Q_lt rest 0
  unfold readP
  split
  · exact ⟨hb _, by simp, by simp, by simp⟩
  · split
    · exact ⟨by simp only; omega, by simp, by simp, by simp⟩
    · split
      · exact ⟨by simp, by simp only; omega, by simp, by simp⟩
      · split
        · exact ⟨by simp, by simp, hs.1, fun y hy => by have := hs.2 y hy; omega⟩
        · split
          · exact ⟨by simp, hf, by simp, by simp⟩
          · split
            · exact ⟨by simp, by simp, he.1, fun y hy => by have := he.2.1 y hy; omega⟩
            · exact ⟨by simp, hc, by simp, by simp⟩
theorem read_any {w : World} {R : Nat} {rest : List UInt8} (h : WAt w R rest 0) (hr : rest.length ≤ 40000) (hV : VarAt w) {k : UInt8} (hk : k ∈ letters8) :
    Calls Tryz.prog 127 #[.int .i32 (k.toNat : Int), .pointer (some ⟨R, 0, none⟩)] w (ReadPost R w (readP k rest).1 (readP k rest).2.1 (readP k rest).2.2) := by
  simp only [letters8, List.mem_cons, List.not_mem_nil, or_false] at hk
  rcases hk with rfl | rfl | rfl | rfl | rfl | rfl | rfl | rfl
  · exact read_b h hr
  · exact read_s h hr
  · exact read_u h hr
  · exact read_m h hr
  · exact read_n h hr hV
  · exact read_c h hr
  · exact read_t h hr
  · exact read_e h hr
end Go.Proofs.YtlalkpgipenkaaaGreatDoor
