/- Layer 31: slices.IndexFunc of events; trust.TakenAt, Kept, claims, Safe. -/
import Derived.Test.YtfjbpaigbphbbaaEv0
import Derived.Shelf.Abstract
namespace Go.Proofs.Ytfjbpaigbphbbaa
open Go.RowKit

set_option maxHeartbeats 1000000 in
set_option maxRecDepth 100000 in
theorem idxEv_any {p : EvV → Bool} (g : Nat) (lb : Array Value) (eg : ∀ args w, (callFunc g args).run Try.prog w = .ok (.enter g args) w) {w : World} {v : Value} {l : List EvV} (h : EventsAt w v l) (hl : l.length ≤ maxLen)
    (hp : ∀ W x, x ∈ l → Below w.heap.size w W → Calls Try.prog g (#[.agg x.row] ++ lb) W fun e w' => e = .returned (.bool (p x)) ∧ Below W.heap.size W w') :
    Calls Try.prog 25 #[v, .func (.func g) #[] lb] w fun e w' => e = .returned (.int .i64 (idxP p l)) ∧ Below w.heap.size w w' := by
  obtain ⟨ao, cap, rfl, hc⟩ := h
  unfold maxLen at hl
  have HP := Lib.hid hp
  have HC := Lib.hid hc
  have HH : Hid (∀ k (hk : k < l.length), p l[k] = true → (∀ x ∈ l.take k, p x = false) → idxP p l = k) := fun k hk h1 h0 => idxP_hit hk h1 h0
  have HM : Hid ((∀ x ∈ l, p x = false) → idxP p l = -1) := idxP_miss
  clear hp hc
  generalize idxP p l = z at *
  go_enter Try.func25, Try.ntmps25
  go_wp2_with fail
  go_loopw [8] (fun i wr => ∃ k : Nat, k ≤ l.length ∧ i = .int .i64 k ∧ Hid (∀ x ∈ l.take k, p x = false) ∧ Hid (Below w.heap.size w wr)) (fun i _ => l.length - (intOf i).toNat)
  case atStart => exact ⟨0, Nat.zero_le _, rfl, Lib.hid (by simp), Lib.hid (Below.refl _ _)⟩
  case round =>
    obtain ⟨k, hk, rfl, HT, HB⟩ := hrel
    by_cases hlt : k < l.length
    · obtain ⟨b, off, rfl, hb, hcell⟩ := HC.out (by intro h; simp [h] at hlt)
      obtain ⟨x, hx⟩ : ∃ x, x = l[k] := ⟨_, rfl⟩
      have HL : Hid (∀ j u, x.row[j]? = some u → wr.cell? ((⟨b, off + k * 34, none⟩ : Addr).add j) = some u) := fun j u hj => by
        rw [Addr.add_lit]
        exact (HB.out.cell (p := ⟨b, off + k * 34 + j, none⟩) hb).trans (hcell k x (by rw [hx]; exact List.getElem?_eq_getElem hlt) j u hj)
      have HQ := Lib.hid (HP.out wr x (by rw [hx]; exact List.getElem_mem hlt) HB.out)
      have HS : Hid (x.row.size = 34) := x.row_size
      have H1 : Hid (p x = true → z = k) := fun e => HH.out k hlt (by rw [← hx]; exact e) HT.out
      have H0 : Hid (p x = false → ∀ y ∈ l.take (k + 1), p y = false) := fun e => evTake hlt HT.out (by rw [← hx]; exact e)
      clear hcell hx HC HP HH HM HT
      generalize x.row = R at *
      generalize p x = q at *
      cases q with
      | true =>
        have HF := Lib.hid (H1.out rfl)
        clear H1 H0
        go_wp2_with (first
          | (refine wpList_load_cells rfl 38 _ rfl ⟨b, off + k * 34, none⟩ rfl R _ HL.out Try.underlying38 rfl (by rw [HS.out]; exact sizeEvent) ?_)
          | (go_at_fn g; refine HQ.out.mono ?_; rintro e w' ⟨rfl, hb'⟩; have B' := Lib.hid hb'; clear hb'))
        go_ret
        exact ⟨by rw [HF.out]; rfl, HB.out.trans (B'.out.mono HB.out.size)⟩
      | false =>
        have HF := Lib.hid (H0.out rfl)
        clear H1 H0
        go_wp2_with (first
          | (refine wpList_load_cells rfl 38 _ rfl ⟨b, off + k * 34, none⟩ rfl R _ HL.out Try.underlying38 rfl (by rw [HS.out]; exact sizeEvent) ?_)
          | (go_at_fn g; refine HQ.out.mono ?_; rintro e w' ⟨rfl, hb'⟩; have B' := Lib.hid hb'; clear hb'))
        go_roundw
        case rel => exact ⟨k + 1, by omega, by go_num, HF, Lib.hid (HB.out.trans (B'.out.mono HB.out.size))⟩
        case measure => simp [intOf]; omega
    · have hkl : k = l.length := by omega
      subst hkl
      have HF := Lib.hid (HM.out (by have := HT.out; rwa [List.take_length] at this))
      clear hlt HC HT HM HH HP
      go_wp2_with fail
      go_ret
      exact ⟨by rw [HF.out]; rfl, HB.out⟩

/-- The taking of a key. -/
def takenP (who : Int) (e : EvV) : Bool := e.ki == 7 && e.wh == who
/-- A commit or an accept. -/
def claimsP (e : EvV) : Bool := e.ki == 2 || e.ki == 4
/-- Was a key taken ahead of a place? -/
def aheadB (l : List EvV) (who n : Int) : Bool := (l.take n.toNat).any (takenP who)
theorem kept_is (l : List EvV) (who n : Int) : (idxP (takenP who) l == -1 || decide (idxP (takenP who) l ≥ n)) = !aheadB l who n := by
  unfold aheadB
  rcases idxP_cases (takenP who) l with ⟨h, h0⟩ | ⟨k, hk, h, h1, h0⟩
  · have : (l.take n.toNat).any (takenP who) = false := List.any_eq_false.2 fun x hx => by rw [h0 x (List.mem_of_mem_take hx)]; simp
    rw [h, this]
    rfl
  · by_cases hn : n ≤ k
    · have : (l.take n.toNat).any (takenP who) = false := List.any_eq_false.2 fun x hx => by
        rw [h0 x ?_]; · simp
        obtain ⟨j, hj, rfl⟩ := List.mem_take_iff_getElem.1 hx
        exact List.mem_take_iff_getElem.2 ⟨j, by omega, rfl⟩
      rw [h, this, decide_eq_true (by omega)]
      simp
    · have : (l.take n.toNat).any (takenP who) = true := List.any_eq_true.2 ⟨l[k], List.mem_take_iff_getElem.2 ⟨k, by omega, rfl⟩, h1⟩
      rw [h, this, decide_eq_false (by omega)]
      simp

set_option maxHeartbeats 1000000 in
set_option maxRecDepth 100000 in
theorem takenAt1_any (x : EvV) (who : Int) (b : Nat) (w : World) (hw : w.cell? ⟨b, 0, none⟩ = some (.int .i64 who)) (hb : b < w.heap.size) :
    Calls Try.prog 26 #[.agg x.row, .pointer (some ⟨b, 0, none⟩)] w fun e w' => e = .returned (.bool (takenP who x)) ∧ Below w.heap.size w w' := by
  have HS : Hid (x.row.size = 34) := x.row_size
  have g0 := x.row_ki
  have g3 := x.row_wh
  have HT : Hid (takenP who x = (x.ki == 7 && x.wh == who)) := rfl
  obtain ⟨R, hR⟩ : ∃ R, x.row = R := ⟨_, rfl⟩
  rw [hR] at HS g0 g3 ⊢
  clear hR
  have H0 := Lib.hid ((cell_of_row _ w.heap.size 0 R 38 (0, 0) (heap_alloc_new w (.cells R 38))).trans g0)
  have H3 := Lib.hid ((cell_of_row _ w.heap.size 3 R 38 (0, 0) (heap_alloc_new w (.cells R 38))).trans g3)
  have c0 := H0.out
  have c3 := H3.out
  have cw : (w.alloc (.cells R 38)).cell? ⟨b, 0, none⟩ = some (.int .i64 who) := (((Below.refl _ w).alloc (Nat.le_refl _) (.cells R 38)).cell (p := ⟨b, 0, none⟩) hb).trans hw
  generalize takenP who x = z at *
  generalize x.ki = ki at *
  generalize x.wh = wh at *
  clear hw H0 H3 g0 g3
  have BB : Hid (Below w.heap.size w (w.alloc (.cells R 38))) := Lib.hid ((Below.refl _ w).alloc (Nat.le_refl _) _)
  by_cases h7 : ki = 7
  · subst h7
    go_enter Try.func26, Try.ntmps26
    go_wp2_with fail
    go_ret
    exact ⟨by rw [HT.out]; rfl, BB.out⟩
  · have q : (ki == 7) = false := by rw [beq_eq_false_iff_ne]; exact h7
    go_enter Try.func26, Try.ntmps26
    go_wp2_with fail
    go_ret
    exact ⟨by rw [HT.out, q]; rfl, BB.out⟩

set_option maxHeartbeats 1000000 in
set_option maxRecDepth 100000 in
theorem takenAt_any {w : World} {v : Value} {l : List EvV} (h : EventsAt w v l) (hl : l.length ≤ maxLen) (who : Int) :
    Calls Try.prog 16 #[v, .int .i64 who] w fun e w' => e = .returned (.int .i64 (idxP (takenP who) l)) ∧ Below w.heap.size w w' := by
  have B0 := Lib.hid ((Below.refl _ w).alloc (Nat.le_refl _) (.cells #[.int .i64 who] 3))
  have HI := Lib.hid (idxEv_any (p := takenP who) 26 #[.pointer (some ⟨w.heap.size, 0, none⟩)] (fun _ _ => by kernel_rfl) (h.below B0.out) hl fun W x _ hb => takenAt1_any x who w.heap.size W ((hb.cell (p := ⟨w.heap.size, 0, none⟩) (by simp)).trans (cell_of_row _ w.heap.size 0 _ _ _ (heap_alloc_new w (.cells #[.int .i64 who] 3)))) (Nat.lt_of_lt_of_le (by simp) hb.size))
  generalize idxP (takenP who) l = z at *
  clear h
  go_enter Try.func16, Try.ntmps16
  go_wp2_with (first
    | (go_at_call 25; (with_reducible refine HI.out.mono ?_); rintro e w1 ⟨rfl, b1⟩; have B1 := Lib.hid (B0.out.trans (b1.mono B0.out.size)); clear b1))
  go_ret
  exact ⟨rfl, B1.out⟩
set_option maxHeartbeats 1000000 in
set_option maxRecDepth 100000 in
theorem kept_any {w : World} {v : Value} {l : List EvV} (h : EventsAt w v l) (hl : l.length ≤ maxLen) (who n : Int) :
    Calls Try.prog 14 #[v, .int .i64 who, .int .i64 n] w fun e w' => e = .returned (.bool (!aheadB l who n)) ∧ Below w.heap.size w w' := by
  have HI := Lib.hid (takenAt_any h hl who)
  have HK := Lib.hid (kept_is l who n)
  generalize (!aheadB l who n) = q at *
  generalize idxP (takenP who) l = z at *
  clear h
  by_cases hz : z = -1
  · subst hz
    go_enter Try.func14, Try.ntmps14
    go_wp2_with (first
      | (go_at_call 16; (with_reducible refine HI.out.mono ?_); rintro e w1 ⟨rfl, b1⟩; have B1 := Lib.hid b1; clear b1))
    go_ret
    exact ⟨by rw [← HK.out]; rfl, B1.out⟩
  · have q0 : (z == -1) = false := by rw [beq_eq_false_iff_ne]; exact hz
    go_enter Try.func14, Try.ntmps14
    go_wp2_with (first
      | (go_at_call 16; (with_reducible refine HI.out.mono ?_); rintro e w1 ⟨rfl, b1⟩; have B1 := Lib.hid b1; clear b1))
    go_ret
    exact ⟨by rw [← HK.out, q0]; rfl, B1.out⟩
set_option maxHeartbeats 1000000 in
set_option maxRecDepth 100000 in
theorem claims_any (x : EvV) (w : World) : Calls Try.prog 22 #[.agg x.row] w fun e w' => e = .returned (.bool (claimsP x)) ∧ Below w.heap.size w w' := by
  have HS : Hid (x.row.size = 34) := x.row_size
  have g0 := x.row_ki
  have HT : Hid (claimsP x = (x.ki == 2 || x.ki == 4)) := rfl
  obtain ⟨R, hR⟩ : ∃ R, x.row = R := ⟨_, rfl⟩
  rw [hR] at HS g0 ⊢
  clear hR
  have c0 := ((cell_of_row _ w.heap.size 0 R 38 (0, 0) (heap_alloc_new w (.cells R 38))).trans g0)
  generalize claimsP x = z at *
  generalize x.ki = ki at *
  clear g0
  have BB : Hid (Below w.heap.size w (w.alloc (.cells R 38))) := Lib.hid ((Below.refl _ w).alloc (Nat.le_refl _) _)
  by_cases h2 : ki = 2
  · subst h2
    go_enter Try.func22, Try.ntmps22
    go_wp2_with fail
    go_ret
    exact ⟨by rw [HT.out]; rfl, BB.out⟩
  · have q : (ki == 2) = false := by rw [beq_eq_false_iff_ne]; exact h2
    go_enter Try.func22, Try.ntmps22
    go_wp2_with fail
    go_ret
    exact ⟨by rw [HT.out, q]; rfl, BB.out⟩
/-- Is an event safe? -/
def safeI (l : List EvV) (n : Int) : Bool := decide (n ≥ 0) && decide (n < l.length) && match l[n.toNat]? with
  | some e => claimsP e && !aheadB l e.wh n
  | none => false
def safeB (l : List EvV) (k : Nat) : Bool := match l[k]? with
  | some e => claimsP e && !aheadB l e.wh k
  | none => false
theorem safeI_nat {l : List EvV} {k : Nat} (hk : k < l.length) : safeI l k = safeB l k := by
  unfold safeI safeB
  rw [decide_eq_true (by omega), decide_eq_true (by omega), Int.toNat_natCast]
  rfl
set_option maxHeartbeats 2000000 in
set_option maxRecDepth 100000 in
theorem safe_any {w : World} {v : Value} {l : List EvV} (h : EventsAt w v l) (hl : l.length ≤ maxLen) (n : Int) :
    Calls Try.prog 10 #[v, .int .i64 n] w fun e w' => e = .returned (.bool (safeI l n)) ∧ Below w.heap.size w w' := by
  have HK := Lib.hid (fun (who : Int) (W : World) (hb : Below w.heap.size w W) => kept_any (h.below hb) hl who n)
  have HW := Lib.hid h
  obtain ⟨ao, cap, rfl, hc⟩ := h
  unfold maxLen at hl
  by_cases h0 : n ≥ 0
  case neg =>
    have q0 : decide (n ≥ 0) = false := decide_eq_false h0
    have HZ : Hid (safeI l n = false) := by show safeI l n = false; unfold safeI; rw [q0]; rfl
    generalize safeI l n = z at *
    clear hc HK HW
    go_enter Try.func10, Try.ntmps10
    go_wp2_with fail
    go_ret
    exact ⟨by rw [HZ.out]; rfl, Below.refl _ _⟩
  have q0 : decide (n ≥ 0) = true := decide_eq_true h0
  by_cases h1 : n < l.length
  case neg =>
    have q1 : decide (n < (l.length : Int)) = false := decide_eq_false h1
    have HZ : Hid (safeI l n = false) := by show safeI l n = false; unfold safeI; rw [q0, q1]; rfl
    generalize safeI l n = z at *
    clear hc HK HW
    go_enter Try.func10, Try.ntmps10
    go_wp2_with fail
    go_ret
    exact ⟨by rw [HZ.out]; rfl, Below.refl _ _⟩
  have q1 : decide (n < (l.length : Int)) = true := decide_eq_true h1
  obtain ⟨k, rfl⟩ : ∃ k : Nat, n = k := ⟨n.toNat, by omega⟩
  have hlt : k < l.length := by omega
  obtain ⟨b, off, rfl, hb, hcell⟩ := hc (by intro h; simp [h] at hlt)
  have HL : Hid (∀ j u, (l[k]).row[j]? = some u → w.cell? ((⟨b, off + k * 34, none⟩ : Addr).add j) = some u) := fun j u hj => by
    rw [Addr.add_lit]
    exact hcell k _ (List.getElem?_eq_getElem hlt) j u hj
  have HZ : Hid (safeI l k = (claimsP l[k] && !aheadB l (l[k]).wh k)) := by
    show safeI l k = _
    rw [safeI_nat hlt]; unfold safeB; rw [List.getElem?_eq_getElem hlt]
  have HC := Lib.hid (claims_any l[k])
  have hw3 : ∀ W, Below w.heap.size w W → W.cell? ⟨b, off + k * 34 + 3, none⟩ = some (.int .i64 (l[k]).wh) := fun W hB => (hB.cell (p := ⟨b, off + k * 34 + 3, none⟩) hb).trans (hcell k _ (List.getElem?_eq_getElem hlt) 3 _ rfl)
  have H3 := Lib.hid hw3
  have HS : Hid ((l[k]).row.size = 34) := rfl
  clear hw3 hcell hc HW
  generalize safeI l k = z at *
  generalize claimsP l[k] = c at *
  have HKx := Lib.hid (HK.out (l[k]).wh)
  clear HK
  generalize (l[k]).wh = who at *
  generalize (l[k]).row = R at *
  generalize (!aheadB l who k) = q at *
  cases c with
  | false =>
    clear HKx H3
    go_enter Try.func10, Try.ntmps10
    go_wp2_with (first
      | (refine wpList_load_cells_on rfl 38 _ rfl ⟨b, off + k * 34, none⟩ rfl R _ HL.out Try.underlying38 rfl (by rw [HS.out]; exact sizeEvent) ?_)
      | (go_at_call 22; (with_reducible refine (HC.out _).mono ?_); rintro e w1 ⟨rfl, b1⟩; have B1 := Lib.hid b1; clear b1))
    go_ret
    exact ⟨by rw [HZ.out]; rfl, B1.out⟩
  | true =>
    go_enter Try.func10, Try.ntmps10
    go_wp2_with (first
      | (refine wpList_load_cells_on rfl 38 _ rfl ⟨b, off + k * 34, none⟩ rfl R _ HL.out Try.underlying38 rfl (by rw [HS.out]; exact sizeEvent) ?_)
      | (go_at_call 22; (with_reducible refine (HC.out _).mono ?_); rintro e w1 ⟨rfl, b1⟩; have B1 := Lib.hid b1; clear b1; have c3 := H3.out w1 B1.out)
      | (go_at_call 14; (with_reducible refine (HKx.out _ B1.out).mono ?_); rintro e w2 ⟨rfl, b2⟩; have B2 := Lib.hid (B1.out.trans (b2.mono B1.out.size)); clear b2))
    go_ret
    exact ⟨by rw [HZ.out]; rfl, B2.out⟩
end Go.Proofs.Ytfjbpaigbphbbaa
