/- Part 26 of what the statement wants. -/
import Derived.Deep.AppendLies
import Derived.LoopTactic
import Derived.WalkMore
import Derived.Deep.RegionHeld3
import Derived.Test.YtjlbifpbdocahaaGreatDoorPk03
import Derived.Test.YtjlbifpbdocahaaGreatDoorPk19
import Derived.Test.YtjlbifpbdocahaaGreatDoorPk25
namespace Go.Proofs.YtjlbifpbdocahaaGreatDoor
open Go.RowKit

/-- A row of texts of the call's own. -/
structure Sr22 (W1 : World) (L : List ByteArray) (v : Value) (W : World) : Prop where
  row : W.ownsRow W1.heap.size 9 1 v L.length (strs L)
  bel : Below W1.heap.size W1 W
theorem Sr22.below {W1 W W' : World} {L : List ByteArray} {v : Value} (h : Sr22 W1 L v W) (hb : Below W.heap.size W W') : Sr22 W1 L v W' :=
  ⟨owns_moves h.row (Moves.ofBelow (S := nobody) hb) (fun _ _ h => h), h.bel.trans (hb.mono h.bel.size)⟩
theorem Sr22.next {W1 W W2 : World} {L : List ByteArray} {v v2 : Value} {x : ByteArray} {o : Obj} (h : Sr22 W1 L v W) (hr : W2.ownsRow W1.heap.size 9 1 v2 (L.length + 1) (strs L ++ [.string x])) (hg : (W.alloc o).grownBy W2 v.ownBlock) : Sr22 W1 (L ++ [x]) v2 W2 := by
  refine ⟨by rw [strs_snoc, List.length_append]; exact hr, ?_⟩
  exact (h.bel.alloc h.bel.size o).grown hg (by have := h.bel.size; simp; omega) (fun j hj => (h.row.lt j hj).1)
theorem refDataL_short (s : List UInt8) : (refDataL s).length ≤ 131072 := by
  unfold refDataL fitsL
  split
  · simp
  · split
    · simp
    · omega
def rqT (s u v g : List UInt8) (k : Nat) : List ByteArray := [bs s] ++ ((askL22 u v g).take k).map fun x => bs (refDataL x)
theorem rqT_snoc {s u v g : List UInt8} {k : Nat} {x : List UInt8} (h : (askL22 u v g)[k]? = some x) : rqT s u v g (k + 1) = rqT s u v g k ++ [bs (refDataL x)] := by
  unfold rqT
  have hk : k < (askL22 u v g).length := by
    rcases Nat.lt_or_ge k (askL22 u v g).length with h1 | h1
    · exact h1
    · rw [List.getElem?_eq_none h1] at h; cases h
  rw [List.getElem?_eq_getElem hk] at h
  rw [List.take_succ_eq_append_getElem hk, Option.some.inj h, List.map_append]
  simp
theorem rqT_len (s u v g : List UInt8) {k : Nat} (h : k ≤ 6) : (rqT s u v g k).length = k + 1 := by
  unfold rqT
  simp [askL22]
  omega
set_option maxHeartbeats 8000000 in
set_option maxRecDepth 100000 in
theorem r22Request_any (s u v g k : List UInt8) (hs : s.length ≤ 131072) (hu : u.length ≤ 10000) (hv : v.length ≤ 10000) (hg : g.length ≤ 10000) (hk : k.length ≤ 131072) (w : World) :
    Calls Tryz.prog 16 #[.string (bs s), .string (bs u), .string (bs v), .string (bs g), .string (bs k)] w fun e w' => e = .returned (.string (bs (reqL s u v g k))) ∧ Below w.heap.size w w' := by
  have HD : Hid (∀ x ∈ askL22 u v g, ∀ W : World, Calls Tryz.prog 46 #[.string (bs x)] W fun e w' => e = .returned (.string (bs (refDataL x))) ∧ Below W.heap.size W w') := fun x hx W => refData_any x (by
    simp only [askL22, List.mem_cons, List.not_mem_nil, or_false] at hx
    rcases hx with rfl | rfl | rfl | rfl | rfl | rfl <;> first | omega | simp) W
  have HL : Hid (∀ (W : World) (x : Value), TextsAt W x (rqT s u v g 6 ++ [bs k]) → Calls Tryz.prog 47 #[x] W fun e w' => e = .returned (.string (bs (reqL s u v g k))) ∧ Below W.heap.size W w') := fun W x h => by
    refine refList_any (l := [s] ++ (askL22 u v g).map refDataL ++ [k]) ?_ (by simp [askL22]) (fun t htm => ?_)
    · have e : ([s] ++ (askL22 u v g).map refDataL ++ [k]).map bs = rqT s u v g 6 ++ [bs k] := by
        unfold rqT
        simp [askL22]
      rw [e]
      exact h
    · simp only [List.mem_append, List.mem_singleton] at htm
      rcases htm with (rfl | hm) | rfl
      · omega
      · obtain ⟨y, _, rfl⟩ := List.mem_map.1 hm
        have := refDataL_short y
        omega
      · omega
  obtain ⟨i0, hi, hz0, hz1, hz2⟩ := info_parts infoStr
  have hr0 : (w.alloc (.cells #[.string (bs s)] 9)).ownsRow w.heap.size 9 1 (.slice (some ⟨w.heap.size, 0, none⟩) 1 1) 1 (strs [bs s]) := ⟨rfl, .inr ⟨w.heap.size, 1, #[.string (bs s)], rfl, Nat.le_refl _, heap_alloc_new w _, Nat.le_refl _, by unfold maxLen; omega, rfl, rfl⟩⟩
  have HS0 : Hid (Sr22 w (rqT s u v g 0) (.slice (some ⟨w.heap.size, 0, none⟩) 1 1) ((w.alloc (.cells #[.string (bs s)] 9)).alloc (.cells #[.string ⟨#[50]⟩, .string (bs u), .string (bs v), .string ⟨#[112, 117, 98, 108, 105, 99, 107, 101, 121]⟩, .string ⟨#[1]⟩, .string (bs g)] 9))) :=
    ⟨hr0.alloc _, ((Below.refl _ _).alloc (Nat.le_refl _) _).alloc (by simp) _⟩
  have hT : Holds ((w.alloc (.cells #[.string (bs s)] 9)).alloc (.cells #[.string ⟨#[50]⟩, .string (bs u), .string (bs v), .string ⟨#[112, 117, 98, 108, 105, 99, 107, 101, 121]⟩, .string ⟨#[1]⟩, .string (bs g)] 9)) (w.heap.size + 1) 9 #[.string ⟨#[50]⟩, .string (bs u), .string (bs v), .string ⟨#[112, 117, 98, 108, 105, 99, 107, 101, 121]⟩, .string ⟨#[1]⟩, .string (bs g)] := by
    have := Holds.new (w.alloc (.cells #[.string (bs s)] 9)) 9 #[.string ⟨#[50]⟩, .string (bs u), .string (bs v), .string ⟨#[112, 117, 98, 108, 105, 99, 107, 101, 121]⟩, .string ⟨#[1]⟩, .string (bs g)]
    rwa [World.size_alloc] at this
  obtain ⟨W0, hW0⟩ : ∃ W0, W0 = (w.alloc (.cells #[.string (bs s)] 9)).alloc (.cells #[.string ⟨#[50]⟩, .string (bs u), .string (bs v), .string ⟨#[112, 117, 98, 108, 105, 99, 107, 101, 121]⟩, .string ⟨#[1]⟩, .string (bs g)] 9) := ⟨_, rfl⟩
  rw [← hW0] at HS0 hT
  have hsz : W0.heap.size = w.heap.size + 2 := by rw [hW0, World.size_alloc, World.size_alloc]
  obtain ⟨TX, hTX⟩ : ∃ TX : Array Value, TX = #[.string ⟨#[50]⟩, .string (bs u), .string (bs v), .string ⟨#[112, 117, 98, 108, 105, 99, 107, 101, 121]⟩, .string ⟨#[1]⟩, .string (bs g)] := ⟨_, rfl⟩
  rw [← hTX] at hT
  have HT : Hid (∀ (W : World) (j : Nat) (x : List UInt8), Holds W (w.heap.size + 1) 9 TX → (askL22 u v g)[j]? = some x → W.cell? ⟨w.heap.size + 1, j, none⟩ = some (.string (bs x))) := fun W j x h hx => by
    rw [h.cell, hTX]
    match j, hx with
    | 0, hx => simp [askL22] at hx; subst hx; rfl
    | 1, hx => simp [askL22] at hx; subst hx; rfl
    | 2, hx => simp [askL22] at hx; subst hx; rfl
    | 3, hx => simp [askL22] at hx; subst hx; rfl
    | 4, hx => simp [askL22] at hx; subst hx; rfl
    | 5, hx => simp [askL22] at hx; subst hx; rfl
    | j + 6, hx => simp [askL22] at hx
  have HT0 := Lib.hid hT
  clear hTX
  have hal : (askL22 u v g).length = 6 := rfl
  have HW0 := Lib.hid hW0
  clear hs hu hv hg hk hr0 hT hW0
  go_enter Tryz.func16, Tryz.ntmps16
  go_wp2_with fail
  rw [← HW0.out]
  go_loopw [11, 13] (fun x i wr => ∃ (j : Nat) (g1 c1 : Nat), j ≤ 6 ∧ i = .int .i64 (j : Int) ∧ x = .slice (some ⟨g1, 0, none⟩) (rqT s u v g j).length c1 ∧ g1 ≠ w.heap.size + 1 ∧ Sr22 w (rqT s u v g j) x wr ∧ Holds wr (w.heap.size + 1) 9 TX) (fun _ i _ => 6 - (intOf i).toNat)
  case atStart => exact ⟨0, w.heap.size, 1, by omega, rfl, rfl, by omega, HS0.out, HT0.out⟩
  case round =>
    obtain ⟨j, g1, c1, hj, rfl, rfl, hne, hs, hT⟩ := hrel
    have HLl : Hid ((rqT s u v g j).length = j + 1) := rqT_len s u v g hj
    by_cases hlt : j < 6
    · obtain ⟨x, hx⟩ : ∃ x, (askL22 u v g)[j]? = some x := ⟨_, List.getElem?_eq_getElem (by rw [hal]; exact hlt)⟩
      have y0 := HT.out wr j x hT hx
      have HDx := Lib.hid (HD.out x (List.mem_of_getElem? hx))
      have HSn := Lib.hid (rqT_snoc (s := s) hx)
      have HTx := Lib.hid hT
      have q1 : decide ((j : Int) < 6) = true := decide_eq_true (by omega)
      have zz := hs.bel.size
      have hlo : (0 : Int) ≤ (j : Int) := by omega
      have hhi : (j : Int) < 6 := by omega
      clear hx hT hal HS0 HT0
      generalize hL : rqT s u v g j = L at *
      generalize bs (refDataL x) = D at *
      generalize bs x = X at *
      clear hL
      go_wp2_with (first
        | (go_at_call 46; (with_reducible refine (HDx.out _).mono ?_); rintro e w2 ⟨rfl, b2⟩; have s2 := hs.below b2; have z2 := s2.bel.size)
        | (at_builtin; refine wpList_append_lies _ rfl _ _ 33 rfl w.heap.size 9 i0 (.string ⟨#[]⟩) 1 16 Tryz.underlying33 hi hz0 hz1 hz2 rfl (by decide) _ _ _ rfl (s2.row.alloc _) ⟨w2.heap.size, 0, none⟩ 1 1 [.string D] rfl rfl (cell_one_new _ _ _) (str_one D) (by decide) (by have := HLl.out; unfold maxLen; omega) (by have := HLl.out; omega) (by simp; omega) _ rfl ?_; intro g9 c9 w9 hr9 hg9 hat9 hlt9; have s9 := s2.next hr9 hg9; have z9 := s9.bel.size; have hT9 : Holds w9 (w.heap.size + 1) 9 TX := (((HTx.out.moves (Moves.ofBelow (S := nobody) b2) (fun h => h)).moves (((Moves.refl (fun i => (Value.slice (some ⟨g1, 0, none⟩) L.length c1).ownBlock = some i) w2).alloc _).grown hg9 (fun _ hi => .inl hi)) (fun e => hne (Option.some.inj e)))); have hne9 : g9 ≠ w.heap.size + 1 := (by rcases hat9 with h | h <;> first | (rw [← Option.some.inj h]; exact hne) | (have := HTx.out.lt; have := b2.size; rw [h]; simp; omega)))
        | go_in)
      go_roundw
      case rel =>
        refine ⟨j + 1, g9, c9, by omega, by go_num, ?_, hne9, ?_, hT9⟩
        · rw [HSn.out, List.length_append]; rfl
        · rw [HSn.out]; exact s9
      case measure => simp [intOf]; omega
    · have hj6 : j = 6 := by omega
      subst hj6
      have q1 : decide (((6 : Nat) : Int) < 6) = false := by decide
      have zz := hs.bel.size
      have hs6 := hs
      clear hal HS0 HT0 HT HD hT hlt
      generalize hL : rqT s u v g 6 = L at *
      clear hL
      obtain ⟨RES, hRES⟩ : ∃ x, Hid (x = bs (reqL s u v g k)) := ⟨_, Lib.hid rfl⟩
      rw [← hRES.out] at HL
      generalize bs k = KK at *
      go_wp2_with (first
        | (at_builtin; refine wpList_append_own _ rfl _ _ 33 rfl w.heap.size 9 i0 (.string ⟨#[]⟩) 1 16 Tryz.underlying33 hi hz0 hz1 hz2 rfl (by decide) _ _ _ rfl (hs.row.alloc _) ⟨wr.heap.size, 0, none⟩ 1 1 [.string KK] rfl rfl (cell_one_new _ _ _) (str_one KK) (by have := HLl.out; unfold maxLen; omega) (by have := HLl.out; omega) (by simp; omega) ?_; intro v9 w9 hr9 hg9 hn9; have s9 := hs.next hr9 hg9; have z9 := s9.bel.size; have t9 : TextsAt w9 v9 (L ++ [KK]) := TextsAt.ofRow s9.row (fun e => by simp at e); obtain ⟨ao9, n9, c9, rfl⟩ := row_slice s9.row)
        | (go_at_call 47; (with_reducible refine (HL.out _ _ t9).mono ?_); rintro e w10 ⟨rfl, b10⟩)
        | go_in)
      go_ret
      exact ⟨by rw [← hRES.out]; rfl, s9.bel.trans (b10.mono s9.bel.size)⟩
end Go.Proofs.YtjlbifpbdocahaaGreatDoor

namespace Go.Proofs.YtjlbifpbdocahaaGreatDoor
open Go.RowKit

section
variable {B A n : Nat} {w0 W : World} {P : List (Int × List UInt8)}
set_option maxHeartbeats 1000000 in
set_option maxRecDepth 100000 in
theorem snOwner_any (h : Ta B w0 A P n W) {i : Int} {t : List UInt8} (hi : (i, t) ∈ P) : Calls Tryz.prog 52 #[.pointer (some ⟨A, 0, none⟩), .int .i64 i] W fun e w' => e = .returned (.tuple #[.int .i64 (ownerP t).1, .bool (ownerP t).2]) ∧ Below W.heap.size W w' := by
  by_cases h4 : kindL t = 4
  · obtain ⟨⟨L, F, ha, hG, hl, h3⟩, _⟩ := h
    rcases h3 _ hi with ⟨e1, e2⟩ | ⟨k, e1, e2, e3⟩
    · simp only at e2
      rw [e2] at h4
      simp [kindL] at h4
    · simp only at e1 e3
      obtain ⟨x, m, e, hx, _, ho, hsh, hm, hme⟩ := pub_is hG e2 (by rw [← e3]; exact h4)
      rw [e1, e3, ho]
      have HV1 : Hid (Calls Tryz.prog 40 #[.pointer (some ⟨A, 0, none⟩), .int .i64 (k : Int)] W fun r w' => ∃ g, r = .returned (.tuple #[.agg #[.int .i64 4, .int .i64 0, .int .i64 0, .string noStr, .slice (some ⟨g, 0, none⟩) 1 1], .bool true]) ∧ w'.cell? ⟨g, 0, none⟩ = some (.int .i64 (m : Int)) ∧ Below W.heap.size W w') := by
        have hV1 := View_some ha (List.getElem?_eq_getElem e2)
        rw [hsh] at hV1
        exact hV1.mono fun r w' ⟨g, h5, h6, h7⟩ => ⟨g, h5, (h6.cells rfl) 0 _ rfl, h7⟩
      have HV2 : Hid (∀ W', Below W.heap.size W W' → Calls Tryz.prog 40 #[.pointer (some ⟨A, 0, none⟩), .int .i64 (m : Int)] W' fun r w' => ∃ g, r = .returned (.tuple #[.agg #[.int .i64 3, .int .i64 (x : Int), .int .i64 0, .string noStr, .slice (some ⟨g, 0, none⟩) 0 0], .bool true]) ∧ Below W'.heap.size W' w') := fun W' hb => by
        have hV2 := View_some (ha.below hb) hm
        rw [hme] at hV2
        exact hV2.mono fun r w' ⟨g, h5, _, h7⟩ => ⟨g, h5, h7⟩
      clear ha hG hl h3 hi e1 e3 ho hsh hm hme e2 h4 hx
      generalize (m : Int) = M at *
      generalize (x : Int) = X at *
      go_enter Tryz.func52, Tryz.ntmps52
      go_wp2_with (first
        | (go_at_call 40; (with_reducible refine HV1.out.mono ?_); rintro r w1 ⟨g, rfl, c1, b1⟩; have c2 := ((Below.refl w1.heap.size w1).alloc (Nat.le_refl _) (.cells #[.int .i64 4, .int .i64 0, .int .i64 0, .string noStr, .slice (some ⟨g, 0, none⟩) 1 1] 87)).cell (p := ⟨g, 0, none⟩) (World.block_lt_of_cell? _ _ c1); rw [c1] at c2)
        | (go_at_call 40; (with_reducible refine (HV2.out _ (b1.alloc b1.size _)).mono ?_); rintro r w3 ⟨g3, rfl, b3⟩)
        | fail)
      go_ret2
      have b4 := b1.alloc b1.size (.cells #[.int .i64 4, .int .i64 0, .int .i64 0, .string noStr, .slice (some ⟨g, 0, none⟩) 1 1] 87)
      have b5 := b4.trans (b3.mono b4.size)
      first | exact ⟨rfl, b5⟩ | exact ⟨rfl, b5.alloc b5.size _⟩
  · have ho : ownerP t = (0, false) := if_neg h4
    rw [ho]
    have HV : Hid (Calls Tryz.prog 40 #[.pointer (some ⟨A, 0, none⟩), .int .i64 i] W fun r w' => ∃ (a b : Int) (s : ByteArray) (ao : Option Addr) (m c : Nat) (z : Bool), r = .returned (.tuple #[.agg #[.int .i64 (kindL t : Int), .int .i64 a, .int .i64 b, .string s, .slice ao m c], .bool z]) ∧ Below W.heap.size W w') :=
      (taView h hi).mono fun r w' ⟨a, b, s, ao, m, c, h1, _, _, _, h5⟩ => ⟨a, b, bs s, ao, m, c, _, h1, h5⟩
    have q4 : ((kindL t : Int) == 4) = false := by
      have : (kindL t : Int) ≠ 4 := by omega
      simpa using this
    have q5 : ((kindL t : Int) != 4) = true := by rw [bne, q4]; rfl
    clear h hi ho h4
    generalize (kindL t : Int) = K at *
    go_enter Tryz.func52, Tryz.ntmps52
    go_wp2_with (go_at_call 40; (with_reducible refine HV.out.mono ?_); rintro r w1 ⟨a, b, s, ao, m, c, z, rfl, b1⟩)
    go_ret2
    first | exact ⟨rfl, b1.alloc b1.size _⟩ | exact ⟨rfl, b1⟩
end
end Go.Proofs.YtjlbifpbdocahaaGreatDoor

namespace Go.Proofs.YtjlbifpbdocahaaGreatDoor
open Go.RowKit

section
variable {B A n : Nat} {w0 W : World} {P : List (Int × List UInt8)}
theorem Ta.nonePost22 (h : Ta B w0 A P n W) {m : Nat} (hm : n ≤ m) {t : List UInt8} (ht : t = []) : TaPost B w0 A P m W t (.returned (.int .i64 (-1))) W := by
  subst ht
  exact ⟨-1, rfl, (h.mono hm fun p hp => hp).cons (.inr rfl), Kept.refl W⟩
set_option maxRecDepth 100000 in
theorem snHas_any (h : Ta B w0 A P n W) {i : Int} {t : List UInt8} (hi : (i, t) ∈ P) : Calls Tryz.prog 36 #[.pointer (some ⟨A, 0, none⟩), .int .i64 i] W fun e w' => e = .returned (.bool (!t.isEmpty)) ∧ W = w' := by
  have hk := h.kind0 hi
  have HK := Lib.hid (taKind h hi)
  obtain ⟨r, hr⟩ : ∃ r, r = (!t.isEmpty) := ⟨_, rfl⟩
  have q : ((kindL t : Int) != 0) = r := by
    rw [hr, Bool.eq_iff_iff, bne_iff_ne, Bool.not_eq_true', ← Bool.not_eq_true, List.isEmpty_iff, ← hk]
    omega
  rw [← hr]
  clear hr h hk
  generalize (kindL t : Int) = K at *
  go_enter Tryz.func36, Tryz.ntmps36
  go_wp2_with (go_at_call 48; with_reducible refine HK.out.mono ?_; rintro e w1 ⟨rfl, hw⟩; subst hw)
  go_ret
  exact ⟨rfl, rfl⟩
set_option maxRecDepth 100000 in
theorem snHost_any (h : Ta B w0 A P n W) (hn : n ≤ 10000) (g : List UInt8) (hg : g.length ≤ 1000000) (who : Int) {i : Int} {t : List UInt8} (hi : (i, t) ∈ P) : Calls Tryz.prog 23 #[.pointer (some ⟨A, 0, none⟩), .string (bs g), .int .i64 who, .int .i64 i] W (TaPost B w0 A P (n + 2) W (hostL g who t)) := by
  have hH := snHas_any h hi
  by_cases ht : t = []
  · have e0 : (!t.isEmpty) = false := by rw [ht]; rfl
    rw [e0] at hH
    have HH := Lib.hid hH
    have HT := Lib.hid (h.nonePost22 (m := n + 2) (by omega) (t := hostL g who t) (if_neg (fun hh => hh.2.2 ht)))
    clear h hH e0 ht
    go_enter Tryz.func23, Tryz.ntmps23
    go_wp2_with (go_at_call 36; (with_reducible refine HH.out.mono ?_); rintro e w1 ⟨rfl, hw⟩; subst hw)
    go_ret
    exact HT.out
  · have e0 : (!t.isEmpty) = true := by cases t with
      | nil => exact absurd rfl ht
      | cons => rfl
    rw [e0] at hH
    have HH := Lib.hid hH
    have HK := Lib.hid (taKey h (by omega) who)
    have HS : Hid (∀ (b : Int) (w1 : World), Ta B w0 A ((b, refKeyL who) :: P) (n + 1) w1 → Calls Tryz.prog 37 #[.pointer (some ⟨A, 0, none⟩), .string (bs g), .int .i64 b, .int .i64 i] w1 (TaPost B w0 A ((b, refKeyL who) :: P) (n + 2) w1 (hostL g who t))) := fun b w1 hb =>
      taSign hb (by omega) g hg (by simp) (List.mem_cons_of_mem _ hi)
    generalize hostL g who t = T at *
    generalize refKeyL who = T0 at *
    clear h hH e0 ht
    go_enter Tryz.func23, Tryz.ntmps23
    go_wp2_with (first
      | (go_at_call 36; (with_reducible refine HH.out.mono ?_); rintro e w1 ⟨rfl, hw⟩; subst hw)
      | (go_at_call 18; (with_reducible refine HK.out.mono ?_); rintro e w1 ⟨i1, rfl, t1, k1⟩)
      | (go_at_call 37; (with_reducible refine (HS.out _ _ t1).mono ?_); rintro e w2 ⟨i2, rfl, t2, k2⟩))
    go_ret
    exact ⟨i2, rfl, t2.mono (Nat.le_refl _) (fun p hp => by
      rcases List.mem_cons.1 hp with rfl | hp
      · simp
      · simp [hp]), k1.trans k2⟩
end
end Go.Proofs.YtjlbifpbdocahaaGreatDoor

namespace Go.Proofs.YtjlbifpbdocahaaGreatDoor
open Go.RowKit

/-- The numbers beside the data's texts, the last one first. -/
def dataP (l : List (List UInt8)) (ids : List Int) : List (Int × List UInt8) := (ids.zip (l.map refDataL)).reverse
theorem dataP_snoc {l : List (List UInt8)} {ids : List Int} (h : ids.length = l.length) (x : List UInt8) (i : Int) : dataP (l ++ [x]) (ids ++ [i]) = (i, refDataL x) :: dataP l ids := by
  unfold dataP
  rw [List.map_append, List.zip_append (by simpa using h)]
  simp
section
variable {B A n : Nat} {w0 W : World} {P : List (Int × List UInt8)}
theorem owns_kept {w w' : World} {base m : Nat} {t : TypeId} {v : Value} {xs : List Value} (h : w.ownsRow base t 1 v m xs) (k : Kept w w') (h1 : t ≠ 80) (h2 : t ≠ 138) : w'.ownsRow base t 1 v m xs := by
  refine ⟨h.1, ?_⟩
  rcases h.2 with hn | ⟨g, cap, cur, rfl, hb, hg, rest⟩
  · exact .inl hn
  · exact .inr ⟨g, cap, cur, rfl, hb, k.hold g t cur h1 h2 hg, rest⟩
theorem Ta.pastRow {W2 : World} {base m : Nat} {u : Value} {xs : List Value} (h : Ta B w0 A P n W) (hr : W.ownsRow base 37 1 u m xs) (hB : B ≤ base) (mv : Moves (fun i => u.ownBlock = some i) W W2) : Ta B w0 A P n W2 := by
  obtain ⟨⟨L, F, ha, h3⟩, h4⟩ := h
  have hl := ha.lt A ha.self
  exact ⟨⟨L, F, ha.moves mv (fun k hk e => ha.ne_row hr (by decide) (by decide) k e hk), h3⟩, h4.trans (mv.below (by omega) (fun i e => Nat.le_trans hB (hr.lt i e).1))⟩
theorem Kept.pastRow {W0 W2 : World} {base m : Nat} {u : Value} {xs : List Value} (h : Kept W0 W) (hr : W.ownsRow base 37 1 u m xs) (hB : W0.heap.size ≤ base) (mv : Moves (fun i => u.ownBlock = some i) W W2) : Kept W0 W2 := by
  refine ⟨Nat.le_trans h.size mv.size, fun g t cs h1 h2 h3 => (h.hold g t cs h1 h2 h3).moves mv fun e => ?_⟩
  have := (hr.lt g e).1
  have := h3.lt
  omega
theorem Ta.grown {W2 : World} {base m : Nat} {u : Value} {xs : List Value} {o : Obj} (h : Ta B w0 A P n W) (hr : W.ownsRow base 37 1 u m xs) (hB : B ≤ base) (hg : (W.alloc o).grownBy W2 u.ownBlock) : Ta B w0 A P n W2 := by
  have mv : Moves (fun i => u.ownBlock = some i) W W2 := ((Moves.refl (fun i => u.ownBlock = some i) W).alloc o).grown hg (fun _ hi => .inl hi)
  obtain ⟨⟨L, F, ha, h3⟩, h4⟩ := h
  have hl := ha.lt A ha.self
  exact ⟨⟨L, F, ha.moves mv (fun k hk e => ha.ne_row hr (by decide) (by decide) k e hk), h3⟩, h4.trans (mv.below (by omega) (fun i e => Nat.le_trans hB (hr.lt i e).1))⟩
theorem Kept.grown {W0 W2 : World} {base m : Nat} {u : Value} {xs : List Value} {o : Obj} (h : Kept W0 W) (hr : W.ownsRow base 37 1 u m xs) (hB : W0.heap.size ≤ base) (hg : (W.alloc o).grownBy W2 u.ownBlock) : Kept W0 W2 := by
  have mv : Moves (fun i => u.ownBlock = some i) W W2 := ((Moves.refl (fun i => u.ownBlock = some i) W).alloc o).grown hg (fun _ hi => .inl hi)
  refine ⟨Nat.le_trans h.size mv.size, fun g t cs h1 h2 h3 => (h.hold g t cs h1 h2 h3).moves mv fun e => ?_⟩
  have := (hr.lt g e).1
  have := h3.lt
  omega
end
end Go.Proofs.YtjlbifpbdocahaaGreatDoor
