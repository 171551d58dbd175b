/- Part 21 of what the statement wants. -/
import Derived.LoopTactic
import Derived.Deep.RegionHeld3
import Derived.Test.YtobhpclemmhpoaaGreatDoorPk11
import Derived.Test.YtobhpclemmhpoaaGreatDoorPk13
import Derived.Test.YtobhpclemmhpoaaGreatDoorPk20
namespace Go.Proofs.YtobhpclemmhpoaaGreatDoor
open Go.RowKit

theorem wByte_any (b : UInt8) (w : World) : Calls Tryz.prog 81 #[.int .u8 (b.toNat : Int)] w fun e w' => e = .returned (.string (bs [b])) ∧ Below w.heap.size w w' := by
  have hcv := run_string_new w [b] (by simp) #[.int .u8 (b.toNat : Int)] (by simp [byteCells])
  simp only [List.length_cons, List.length_nil] at hcv
  generalize b.toNat = n at *
  generalize bs [b] = B at *
  go_enter Tryz.func81, Tryz.ntmps81
  go_wp2
  go_ret
  exact ⟨rfl, (Below.refl _ _).alloc (Nat.le_refl _) _⟩
theorem wByte_zero (w : World) : Calls Tryz.prog 81 #[.int .u8 0] w fun e w' => e = .returned (.string (bs [0])) ∧ Below w.heap.size w w' := wByte_any 0 w
def wholeL (l : List UInt8) : List UInt8 := if 128 ≤ (hd0 (plainL l)).toNat then 0 :: plainL l else plainL l
theorem wholeL_le (l : List UInt8) : (wholeL l).length ≤ l.length + 1 := by
  have := plainL_le l
  unfold wholeL
  split
  · simp; omega
  · omega

set_option maxRecDepth 100000 in
theorem wWhole_any (l : List UInt8) (hl : l.length ≤ 100000) (w : World) : Calls Tryz.prog 64 #[.string (bs l)] w fun e w' => e = .returned (.string (bs (cnt (wholeL l)))) ∧ Below w.heap.size w w' := by
  have HU := Lib.hid (fun W => unpadded_any l (by omega) W)
  have hw := plainL_le l
  have hwh := wholeL_le l
  have HT := Lib.hid (fun W => wText_any (wholeL l) (by omega) W)
  have HW : Hid (wholeL l = if 128 ≤ (hd0 (plainL l)).toNat then 0 :: plainL l else plainL l) := rfl
  generalize wholeL l = wl at *
  generalize plainL l = p at *
  obtain ⟨B, hB⟩ : ∃ B, B = bs l := ⟨_, rfl⟩
  rw [← hB] at HU ⊢
  clear hB
  cases p with
  | nil =>
    have HW2 : Hid (wl = []) := HW.out
    have hT : Hid (∀ W : World, Calls Tryz.prog 82 #[.string ⟨#[]⟩] W fun e w' => e = .returned (.string (bs (cnt wl))) ∧ Below W.heap.size W w') := by
      have := HT.out
      rw [HW2.out] at this ⊢
      exact this
    have HU2 : Hid (∀ W : World, Calls Tryz.prog 80 #[.string B] W fun e w' => e = .returned (.string ⟨#[]⟩) ∧ w' = W) := HU.out
    clear HU HT HW HW2 hw
    generalize cnt wl = cl at *
    go_enter Tryz.func64, Tryz.ntmps64
    go_wp2_with (first
      | (go_at_call 80; refine (HU2.out _).mono ?_; rintro e w' ⟨rfl, rfl⟩)
      | (go_at_call 82; refine (hT.out _).mono ?_; rintro e w' ⟨rfl, hb⟩))
    go_ret
    exact ⟨rfl, hb⟩
  | cons b r =>
    have hne : (bs (b :: r)).toList.isEmpty = false := by
      rw [ByteArray.toList_eq]
      simp [bs]
    have hi0 : ∀ W : World, (Instr.index 9 (.string (bs (b :: r))) (.int .i64 0)).run Tryz.prog W = .ok (.int .u8 (b.toNat : Int)) W := fun W => index_bs (b :: r) 0 (by simp) W
    have hsz := bs_size (b :: r)
    by_cases hb : 128 ≤ b.toNat
    · have HW2 : wl = 0 :: b :: r := by
        have := HW.out
        rwa [if_pos (by exact hb)] at this
      have hq : ((b.toNat : Int) ≥ 128) := by omega
      have HA : Hid (bs [0] ++ bs (b :: r) = bs (0 :: b :: r)) := bs_append _ _
      rw [HW2] at HT ⊢
      have h1 : (bs [0]).size ≤ 1 := by rw [bs_size]; simp
      have h2 : (bs (b :: r)).size ≤ 1000000 := by rw [bs_size]; omega
      rw [← HA.out] at HT
      generalize cnt (0 :: b :: r) = cl at *
      clear HW HW2 hsz hb HA
      generalize bs (b :: r) = C at *
      obtain ⟨Z, hZ⟩ : ∃ Z, Z = bs [0] := ⟨_, rfl⟩
      have hz := fun W => wByte_zero W
      rw [← hZ] at HT h1
      have HZ : Hid (∀ W : World, Calls Tryz.prog 81 #[.int .u8 0] W fun e w' => e = .returned (.string Z) ∧ Below W.heap.size W w') := by rw [hZ]; exact hz
      clear hZ hz
      generalize b.toNat = n at *
      go_enter Tryz.func64, Tryz.ntmps64
      go_wp2_with (first
        | (go_at_call 80; refine (HU.out _).mono ?_; rintro e w1 ⟨rfl, rfl⟩)
        | (go_at_call 81; refine (HZ.out _).mono ?_; rintro e w2 ⟨rfl, hb2⟩)
        | (go_at_call 82; refine (HT.out _).mono ?_; rintro e w3 ⟨rfl, hb3⟩))
      go_ret
      exact ⟨rfl, hb2.trans (hb3.mono hb2.size)⟩
    · have HW2 : wl = b :: r := by
        have := HW.out
        rwa [if_neg (by exact hb)] at this
      have hq : decide ((b.toNat : Int) ≥ 128) = false := decide_eq_false (by omega)
      rw [HW2] at HT ⊢
      generalize cnt (b :: r) = cl at *
      clear HW HW2 hsz hb
      generalize bs (b :: r) = C at *
      generalize b.toNat = n at *
      go_enter Tryz.func64, Tryz.ntmps64
      go_wp2_with (first
        | (go_at_call 80; refine (HU.out _).mono ?_; rintro e w1 ⟨rfl, rfl⟩)
        | (go_at_call 82; refine (HT.out _).mono ?_; rintro e w3 ⟨rfl, hb3⟩))
      go_ret
      exact ⟨rfl, hb3⟩

end Go.Proofs.YtobhpclemmhpoaaGreatDoor

namespace Go.Proofs.YtobhpclemmhpoaaGreatDoor
open Go.RowKit

/-- The texts of what the client asked for, and of the group. -/
def askL (a0 a1 a2 : Nat) (gp gg : List UInt8) : List (List UInt8) := [pack4 a0, pack4 a1, pack4 a2, cnt (wholeL gp), cnt (wholeL gg)]
section
variable {B A n : Nat} {w0 W : World} {P : List (Int × List UInt8)}
set_option maxHeartbeats 4000000 in
set_option maxRecDepth 100000 in
theorem xRequest_any (h : Ta B w0 A P n W) (hn : n ≤ 1000) (s0 s1 s2 s3 : ByteArray) (asks : Bool) (kk ke kf kt : Int) (a0 a1 a2 : Nat) (h0 : a0 < 4294967296) (h1 : a1 < 4294967296) (h2 : a2 < 4294967296) (gp gg : List UInt8) (hp : gp.length ≤ 10000) (hg : gg.length ≤ 10000) :
    Calls Tryz.prog 28 #[.pointer (some ⟨A, 0, none⟩), .agg #[.string s0, .string s1, .string s2, .string s3, .int .i64 kk, .bool asks, .int .u32 (a0 : Int), .int .u32 (a1 : Int), .int .u32 (a2 : Int), .string (bs gp), .string (bs gg), .int .i64 ke, .int .i64 kf, .int .i64 kt]] W fun e w' => ∃ (ids : List Int) (vr : Value), e = .returned vr ∧ ids.length = 5 ∧ w'.ownsRow W.heap.size 36 1 vr 5 (idCells ids) ∧ Ta B w0 A (dataP (askL a0 a1 a2 gp gg) ids ++ P) (n + 5) w' ∧ Kept W w' := by
  obtain ⟨W1, hW1⟩ : ∃ W1, Hid (W1 = W.alloc (.cells #[.string s0, .string s1, .string s2, .string s3, .int .i64 kk, .bool asks, .int .u32 (a0 : Int), .int .u32 (a1 : Int), .int .u32 (a2 : Int), .string (bs gp), .string (bs gg), .int .i64 ke, .int .i64 kf, .int .i64 kt] 38)) := ⟨_, Lib.hid rfl⟩
  have b1 : Below W.heap.size W W1 := by rw [hW1.out]; exact (Below.refl _ _).alloc (Nat.le_refl _) _
  have hBx : Holds W1 W.heap.size 38 #[.string s0, .string s1, .string s2, .string s3, .int .i64 kk, .bool asks, .int .u32 (a0 : Int), .int .u32 (a1 : Int), .int .u32 (a2 : Int), .string (bs gp), .string (bs gg), .int .i64 ke, .int .i64 kf, .int .i64 kt] := by rw [hW1.out]; exact Holds.new W _ _
  have HC : Hid (∀ W', Kept W1 W' → W'.cell? ⟨W.heap.size, 6, none⟩ = some (.int .u32 (a0 : Int)) ∧ W'.cell? ⟨W.heap.size, 7, none⟩ = some (.int .u32 (a1 : Int)) ∧ W'.cell? ⟨W.heap.size, 8, none⟩ = some (.int .u32 (a2 : Int))) := fun W' hb => by
    have h := hb.hold _ _ _ (by decide) (by decide) hBx
    exact ⟨h.cell 6, h.cell 7, h.cell 8⟩
  have HG : Hid (∀ W', Kept W1 W' → W'.cell? ⟨W.heap.size, 9, none⟩ = some (.string (bs gp)) ∧ W'.cell? ⟨W.heap.size, 10, none⟩ = some (.string (bs gg))) := fun W' hb => by
    have h := hb.hold _ _ _ (by decide) (by decide) hBx
    exact ⟨h.cell 9, h.cell 10⟩
  have HU0 := Lib.hid (U32_any a0 h0)
  have HU1 := Lib.hid (U32_any a1 h1)
  have HU2 := Lib.hid (U32_any a2 h2)
  have HWp := Lib.hid (wWhole_any gp (by omega))
  have HWg := Lib.hid (wWhole_any gg (by omega))
  have hlen : ∀ x ∈ askL a0 a1 a2 gp gg, x.length ≤ 1000000 := fun x hx => by
    have wl : ∀ l : List UInt8, l.length ≤ 10000 → (cnt (wholeL l)).length ≤ 1000000 := fun l hl => by
      have h1 := wholeL_le l
      simp only [cnt, List.length_append]
      have : (pack4 (wholeL l).length).length = 4 := rfl
      omega
    simp only [askL, List.mem_cons, List.not_mem_nil, or_false] at hx
    rcases hx with rfl | rfl | rfl | rfl | rfl
    · simp [pack4]
    · simp [pack4]
    · simp [pack4]
    · exact wl gp hp
    · exact wl gg hg
  have HD : Hid (∀ W2, Below W1.heap.size W1 W2 → Calls Tryz.prog 27 #[.pointer (some ⟨A, 0, none⟩), .slice (some ⟨W2.heap.size, 0, none⟩) 5 5] (W2.alloc (.cells #[.string (bs (pack4 a0)), .string (bs (pack4 a1)), .string (bs (pack4 a2)), .string (bs (cnt (wholeL gp))), .string (bs (cnt (wholeL gg)))] 9)) fun e w' => ∃ (ids : List Int) (vr : Value), e = .returned vr ∧ ids.length = 5 ∧ w'.ownsRow W.heap.size 36 1 vr 5 (idCells ids) ∧ Ta B w0 A (dataP (askL a0 a1 a2 gp gg) ids ++ P) (n + 5) w' ∧ Kept W1 w') := fun W2 hb => by
    have b2 : Below W.heap.size W W2 := b1.trans (hb.mono b1.size)
    have t2 := (h.below b2).alloc (.cells #[.string (bs (pack4 a0)), .string (bs (pack4 a1)), .string (bs (pack4 a2)), .string (bs (cnt (wholeL gp))), .string (bs (cnt (wholeL gg)))] 9)
    refine (xData_any t2 (by omega) (l := askL a0 a1 a2 gp gg) (g := W2.heap.size) (Holds.new W2 _ _) (by simp [askL]) hlen).mono fun e w' ⟨ids, vr, e1, e2, e3, _, e5, e6⟩ => ⟨ids, vr, e1, e2, ?_, e5, (Kept.ofBelow (hb.alloc hb.size _)).trans e6⟩
    have : ids.length = 5 := e2
    rw [this] at e3
    exact owns_lower e3 (by rw [World.size_alloc]; have := b2.size; omega)
  have hb1 := Lib.hid b1
  clear h h0 h1 h2 hp hg hlen hBx b1
  generalize bs (pack4 a0) = S0 at *
  generalize bs (pack4 a1) = S1 at *
  generalize bs (pack4 a2) = S2 at *
  generalize bs (cnt (wholeL gp)) = GP at *
  generalize bs (cnt (wholeL gg)) = GG at *
  generalize bs gp = XP at *
  generalize bs gg = XG at *
  go_enter Tryz.func28, Tryz.ntmps28
  go_upto_region 1 with fail
  rw [← hW1.out]
  have d1 : Below W1.heap.size W1 W1.drew := (Below.refl _ _).drew
  obtain ⟨y0, y1, y2⟩ := HC.out _ (Kept.ofBelow d1)
  go_region_held3 (fun w' => w'.cell? ⟨W.heap.size, 6, none⟩ = some (.int .u32 (a0 : Int)) ∧ w'.cell? ⟨W.heap.size, 7, none⟩ = some (.int .u32 (a1 : Int)) ∧ w'.cell? ⟨W.heap.size, 8, none⟩ = some (.int .u32 (a2 : Int)))
    (first | with_reducible exact HC.out _ (Kept.ofBelow d1) | with_reducible exact HC.out _ (Kept.ofBelow d2) | with_reducible exact HC.out _ (Kept.ofBelow d3) | with_reducible exact HC.out _ (Kept.ofBelow d4) | go_keep)
    (first
      | (go_at_call 60; (with_reducible refine (HU2.out _).mono ?_); rintro e w4 ⟨rfl, b4⟩; have d4 := d3.trans (b4.mono d3.size); obtain ⟨v0, v1, v2⟩ := HC.out _ (Kept.ofBelow d4))
      | (go_at_call 60; (with_reducible refine (HU1.out _).mono ?_); rintro e w3 ⟨rfl, b3⟩; have d3 := d2.trans (b3.mono d2.size); obtain ⟨u0, u1, u2⟩ := HC.out _ (Kept.ofBelow d3))
      | (go_at_call 60; (with_reducible refine (HU0.out _).mono ?_); rintro e w2 ⟨rfl, b2⟩; have d2 := d1.trans (b2.mono d1.size); obtain ⟨z0, z1, z2⟩ := HC.out _ (Kept.ofBelow d2)))
  all_goals
    go_upto_region 2 with fail
    have d5 : Below W1.heap.size W1 w4.drew := d4.drew
    obtain ⟨x0, x1⟩ := HG.out _ (Kept.ofBelow d5)
    go_region_held3 (fun w' => w'.cell? ⟨W.heap.size, 9, none⟩ = some (.string XP) ∧ w'.cell? ⟨W.heap.size, 10, none⟩ = some (.string XG))
      (first | with_reducible exact HG.out _ (Kept.ofBelow d5) | with_reducible exact HG.out _ (Kept.ofBelow d6) | with_reducible exact HG.out _ (Kept.ofBelow d7) | with_reducible exact HG.out _ (Kept.ofBelow d8) | with_reducible exact hsK | go_keep)
      (first
        | (go_at_call 64; (with_reducible refine (HWg.out _).mono ?_); rintro e w7 ⟨rfl, b7⟩; have d7 := d6.trans (b7.mono d6.size); obtain ⟨r0, r1⟩ := HG.out _ (Kept.ofBelow d7); have d8 := d7.alloc d7.size (.cells #[.string S0, .string S1, .string S2, .string GP, .string GG] 9))
        | (go_at_call 64; (with_reducible refine (HWp.out _).mono ?_); rintro e w6 ⟨rfl, b6⟩; have d6 := d5.trans (b6.mono d5.size); obtain ⟨q0, q1⟩ := HG.out _ (Kept.ofBelow d6))
        | (go_at_call 27; (with_reducible refine (HD.out _ d7).mono ?_); rintro e w9 ⟨ids, vr, rfl, e2, e3, e4, e5⟩; obtain ⟨q0', q1'⟩ := HG.out _ e5; have hsK := HG.out _ e5))
  all_goals
    have hKK := (Kept.ofBelow hb1.out).trans e5
    have HE4 := Lib.hid e4
    obtain ⟨ao, nn, cc, rfl⟩ := row_slice e3
    go_wp2_with fail
    go_ret
    exact ⟨ids, _, rfl, e2, e3, HE4.out, hKK⟩
end
end Go.Proofs.YtobhpclemmhpoaaGreatDoor

namespace Go.Proofs.YtobhpclemmhpoaaGreatDoor
open Go.RowKit

theorem kind_pos {L : List Ent} {sh : Shp} (h : GoodSh L sh) : 1 ≤ sh.kind := by cases h <;> simp
theorem kind_enc0 {L : List Ent} (hG : Good L) {k : Nat} (hk : k < L.length) : kindL (enc L k) = L[k].sh.kind ∧ 1 ≤ L[k].sh.kind := by
  have he : L[k]? = some L[k] := List.getElem?_eq_getElem hk
  exact ⟨by rw [hG.enc_eq he, kind_head (hG.sh k _ he)], kind_pos (hG.sh k _ he)⟩
section
variable {B A n : Nat} {w0 W : World} {P : List (Int × List UInt8)}
theorem Ta.kind0 (h : Ta B w0 A P n W) {i : Int} {t : List UInt8} (h1 : (i, t) ∈ P) : kindL t = 0 ↔ t = [] := by
  rcases h.text h1 with rfl | ⟨L, k, hG, hk, rfl, _⟩
  · simp [kindL]
  · have h1 := kind_enc0 hG hk
    have h2 := enc_ne hG hk
    constructor
    · intro h; omega
    · intro h; exact absurd h h2
end
end Go.Proofs.YtobhpclemmhpoaaGreatDoor

namespace Go.Proofs.YtobhpclemmhpoaaGreatDoor
open Go.RowKit

section
variable {B A n : Nat} {w0 W : World} {P : List (Int × List UInt8)}
theorem empty_no (t : List UInt8) : (kindL t = 0 ↔ t = []) → ((kindL t : Int) == 0) = t.isEmpty := fun h => by
  rw [Bool.eq_iff_iff, beq_iff_eq, List.isEmpty_iff, ← h]
  omega
set_option maxRecDepth 100000 in
theorem xHasAll1_any (h : Ta B w0 A P n W) {C : Nat} (hC : W.cell? ⟨C, 0, none⟩ = some (.pointer (some ⟨A, 0, none⟩))) {i : Int} {t : List UInt8} (hi : (i, t) ∈ P) : Calls Tryz.prog 62 #[.int .i64 i, .pointer (some ⟨C, 0, none⟩)] W fun e w' => e = .returned (.bool t.isEmpty) ∧ W = w' := by
  have HK := Lib.hid (taKind h hi)
  have q := empty_no t (h.kind0 hi)
  clear h
  generalize (kindL t : Int) = K at *
  generalize t.isEmpty = b at *
  go_enter Tryz.func62, Tryz.ntmps62
  go_wp2_with (go_at_call 63; (with_reducible refine HK.out.mono ?_); rintro e w1 ⟨rfl, hw⟩; subst hw)
  go_ret
  exact ⟨rfl, rfl⟩
theorem any_take {l : List (Int × List UInt8)} {k : Nat} (hk : k < l.length) (h : (l.take k).any (·.2.isEmpty) = false) (h2 : l[k].2.isEmpty = false) : (l.take (k + 1)).any (·.2.isEmpty) = false := by
  rw [List.take_succ_eq_append_getElem hk, List.any_append, h]
  simp [h2]
theorem any_hit {l : List (Int × List UInt8)} {k : Nat} (hk : k < l.length) (h2 : l[k].2.isEmpty = true) : l.any (·.2.isEmpty) = true := List.any_eq_true.2 ⟨_, List.getElem_mem hk, h2⟩
set_option maxRecDepth 100000 in
theorem idxFuncID_any (h : Ta B w0 A P n W) {C : Nat} (hC : W.cell? ⟨C, 0, none⟩ = some (.pointer (some ⟨A, 0, none⟩))) {v : Value} {Q : List (Int × List UInt8)} (hv : IdsAt W v (Q.map (·.1))) (hl : Q.length ≤ 1000) (hQ : ∀ q ∈ Q, q ∈ P) :
    Calls Tryz.prog 79 #[v, .func (.func 62) #[] #[.pointer (some ⟨C, 0, none⟩)]] W fun e w' => ∃ z : Int, e = .returned (.int .i64 z) ∧ decide (z ≥ 0) = Q.any (·.2.isEmpty) ∧ W = w' := by
  obtain ⟨ao, cap, rfl, hc⟩ := hv
  rw [List.length_map]
  have HCl := Lib.hid (fun (x : Int × List UInt8) (hx : x ∈ Q) => xHasAll1_any h hC (hQ x hx))
  have HC := Lib.hid hc
  clear hc hC h hQ
  go_enter Tryz.func79, Tryz.ntmps79
  go_wp2_with fail
  go_loopw [8] (fun i wr => ∃ k : Nat, k ≤ Q.length ∧ i = .int .i64 k ∧ (Q.take k).any (·.2.isEmpty) = false ∧ wr = W) (fun i _ => Q.length - (intOf i).toNat)
  case atStart => exact ⟨0, Nat.zero_le _, rfl, rfl, rfl⟩
  case round =>
    obtain ⟨k, hk, rfl, htk, rfl⟩ := hrel
    by_cases hlt : k < Q.length
    · obtain ⟨b, off, rfl, hb, hcell⟩ := HC.out (by intro h; simp at h; simp [h] at hlt)
      obtain ⟨x, hx⟩ : ∃ x, x = Q[k] := ⟨_, rfl⟩
      have c1 : wr.cell? ⟨b, off + k, none⟩ = some (.int .i64 x.1) := hcell k _ (by rw [hx, List.getElem?_map, List.getElem?_eq_getElem hlt]; rfl)
      have HO := Lib.hid (HCl.out x (by rw [hx]; exact List.getElem_mem hlt))
      have HN : Hid (x.2.isEmpty = false → (Q.take (k + 1)).any (·.2.isEmpty) = false) := fun e => any_take hlt htk (by rw [← hx]; exact e)
      have HT : Hid (x.2.isEmpty = true → Q.any (·.2.isEmpty) = true) := fun e => any_hit hlt (by rw [← hx]; exact e)
      clear hcell htk hx HC HCl
      generalize x.2.isEmpty = m at *
      generalize x.1 = X at *
      cases m with
      | false =>
        have HR := Lib.hid (HN.out rfl)
        clear HN HT
        go_wp2_with (go_at_call 62; (with_reducible refine HO.out.mono ?_); rintro e w1 ⟨rfl, hw⟩; subst hw)
        go_roundw
        case rel => exact ⟨k + 1, by omega, by go_num, HR.out, trivial⟩
        case measure => simp [intOf]; omega
      | true =>
        have HR := Lib.hid (HT.out rfl)
        clear HN HT
        go_wp2_with (go_at_call 62; (with_reducible refine HO.out.mono ?_); rintro e w1 ⟨rfl, hw⟩; subst hw)
        go_ret
        exact ⟨_, rfl, by rw [HR.out]; exact decide_eq_true (by omega), rfl⟩
    · have hkl : k = Q.length := by omega
      subst hkl
      rw [List.take_length] at htk
      have HT := Lib.hid htk
      clear htk hlt HC HCl
      go_wp2_with fail
      go_ret
      exact ⟨_, rfl, by rw [HT.out]; decide, rfl⟩
set_option maxHeartbeats 1000000 in
set_option maxRecDepth 100000 in
/-- hasAll of a row of terms' numbers: whether none of the texts is empty. -/
theorem xHasAll_any (h : Ta B w0 A P n W) {v : Value} {Q : List (Int × List UInt8)} (hv : IdsAt W v (Q.map (·.1))) (hl : Q.length ≤ 1000) (hQ : ∀ q ∈ Q, q ∈ P) :
    Calls Tryz.prog 26 #[.pointer (some ⟨A, 0, none⟩), v] W fun e w' => e = .returned (.bool (!Q.any (·.2.isEmpty))) ∧ Below W.heap.size W w' := by
  obtain ⟨W1, hW1⟩ : ∃ W1, W1 = W.alloc (.cells #[.pointer (some ⟨A, 0, none⟩)] 34) := ⟨_, rfl⟩
  have b1 : Below W.heap.size W W1 := by rw [hW1]; exact (Below.refl _ _).alloc (Nat.le_refl _) _
  have hC : W1.cell? ⟨W.heap.size, 0, none⟩ = some (.pointer (some ⟨A, 0, none⟩)) := by rw [hW1]; exact (Holds.new W 34 #[.pointer (some ⟨A, 0, none⟩)]).cell 0
  have hi := idxFuncID_any (h.below b1) hC (hv.below b1) hl hQ
  obtain ⟨ao, cap, rfl, _⟩ := hv
  rw [List.length_map] at hi ⊢
  have HC : Hid (Calls Tryz.prog 61 #[.slice ao Q.length cap, .func (.func 62) #[] #[.pointer (some ⟨W.heap.size, 0, none⟩)]] W1 fun e w' => e = .returned (.bool (Q.any (·.2.isEmpty))) ∧ W1 = w') := by
    show Calls _ _ _ _ _
    have HI := Lib.hid hi
    clear hi hW1 b1 hC h hQ
    generalize W.heap.size = C at *
    go_enter Tryz.func61, Tryz.ntmps61
    go_wp2_with (go_at_call 79; (with_reducible refine HI.out.mono ?_); rintro e w2 ⟨z, rfl, hz, hw⟩; subst hw)
    go_ret
    exact ⟨by rw [← hz]; rfl, rfl⟩
  have HB := Lib.hid b1
  have HW := Lib.hid hW1
  clear hi b1 hC hW1 h hQ
  generalize Q.any (·.2.isEmpty) = r at *
  go_enter Tryz.func26, Tryz.ntmps26
  rw [HW.out] at HC HB
  go_wp2_with (go_at_call 61; (with_reducible refine HC.out.mono ?_); rintro e w2 ⟨rfl, hw⟩; subst hw)
  go_ret
  exact ⟨by simp, HB.out⟩
end
end Go.Proofs.YtobhpclemmhpoaaGreatDoor

namespace Go.Proofs.YtobhpclemmhpoaaGreatDoor
open Go.RowKit

section
variable {B A n : Nat} {w0 W : World} {P : List (Int × List UInt8)}
end
end Go.Proofs.YtobhpclemmhpoaaGreatDoor
