/- The walks of the laws LineMakes and LineRight. -/
import Derived.Test.YtgbmepfiajinhaaLn6
namespace Go.Proofs.Ytgbmepfiajinhaa
open Go.RowKit

set_option maxRecDepth 100000 in
theorem LineMakes_small (a b : List UInt8) (ha : a.length ≤ 300) (hb : b.length ≤ 300) (w : World) : Calls Try.prog 3 #[.string (bs a), .string (bs b)] w fun e w' => e = .returned (.bool true) ∧ Below w.heap.size w w' := by
  have z1 := bs_size a
  have z2 := bs_size b
  have HA := Lib.hid awake10_any
  have HM := Lib.hid (fun W => lnMake_any a b (by omega) (by omega) W)
  have HR := Lib.hid (fun W => rlMake_any a b (by omega) (by omega) W)
  cases ho : lnOk a b with
  | false =>
    have hm := lnMake_no ho
    rw [hm.1, hm.2] at HM
    rw [hm.1, ho] at HR
    have hq : (bs ([] : List UInt8)).toList.isEmpty = true := by rw [lnEmptyL]; rfl
    clear hm ho
    generalize bs ([] : List UInt8) = Z at *
    generalize bs a = A at *
    generalize bs b = B at *
    go_enter Try.func3, Try.ntmps3
    go_wp2_with (first
      | (go_at_call 8; refine (HM.out _).mono ?_; rintro e w1 ⟨rfl, b1⟩)
      | (go_at_call 9; refine (HR.out _).mono ?_; rintro e w2 ⟨rfl, b2⟩)
      | (go_at_call 7; refine (HA.out _).mono ?_; rintro e w3 ⟨rfl, b3⟩))
    go_ret
    have s1 := b1.size; have s2 := b2.size; have s3 := b3.size
    exact ⟨rfl, (b1.trans (b2.mono s1)).trans (b3.mono (by omega))⟩
  | true =>
    have hm := lnMake_yes ho
    obtain ⟨hr, hah, hsp⟩ := lnBack ho
    rw [hm.1, hm.2] at HM
    rw [hm.1, ho] at HR
    have hlen : (lnLine a b).length ≤ 1000000 := by have := lnLine_len a b; omega
    have HS := Lib.hid (fun W => lnSplit_any (lnLine a b) hlen W)
    rw [hsp] at HS
    have H1 := Lib.hid (fun W => lnRight_any (lnLine a b) hlen W)
    rw [hr] at H1
    have H2 := Lib.hid (fun W => lnAhead_any (lnLine a b) hlen W)
    rw [hah] at H2
    clear hm ho hr hah hsp hlen
    generalize bs (lnLine a b) = V at *
    generalize bs a = A at *
    generalize bs b = B at *
    have q1 : (V.toList == V.toList) = true := by simp
    have q2 : (A.toList == A.toList) = true := by simp
    have q3 : (B.toList == B.toList) = true := by simp
    go_enter Try.func3, Try.ntmps3
    go_wp2_with (first
      | (go_at_call 8; refine (HM.out _).mono ?_; rintro e w1 ⟨rfl, b1⟩)
      | (go_at_call 9; refine (HR.out _).mono ?_; rintro e w2 ⟨rfl, b2⟩)
      | (go_at_call 10; refine (HS.out _).mono ?_; rintro e w4 ⟨rfl, b4⟩)
      | (go_at_call 11; refine (H1.out _).mono ?_; rintro e w5 ⟨rfl, b5⟩)
      | (go_at_call 12; refine (H2.out _).mono ?_; rintro e w6 ⟨rfl, b6⟩)
      | (go_at_call 7; refine (HA.out _).mono ?_; rintro e w3 ⟨rfl, b3⟩))
    go_ret
    have s1 := b1.size; have s2 := b2.size; have s3 := b3.size; have s4 := b4.size; have s5 := b5.size; have s6 := b6.size
    exact ⟨rfl, ((((b1.trans (b2.mono s1)).trans (b4.mono (by omega))).trans (b3.mono (by omega))).trans (b5.mono (by omega))).trans (b6.mono (by omega))⟩

set_option maxRecDepth 100000 in
theorem LineRight_small (x : List UInt8) (hx : x.length ≤ 400) (w : World) : Calls Try.prog 4 #[.string (bs x)] w fun e w' => e = .returned (.bool true) ∧ Below w.heap.size w w' := by
  have z1 := bs_size x
  have HA := Lib.hid awake10_any
  have HS := Lib.hid (fun W => lnSplit_any x (by omega) W)
  have HT := Lib.hid (fun W => rlSplit_any x (by omega) W)
  have H1 := Lib.hid (fun W => lnRight_any x (by omega) W)
  have H2 := Lib.hid (fun W => lnAhead_any x (by omega) W)
  have H3 := Lib.hid (fun W => rlRight_any x (by omega) W)
  have H4 := Lib.hid (fun W => rlAhead_any x (by omega) W)
  generalize lnSplit x = p at *
  generalize lnRight x = r at *
  generalize lnAhead x = h at *
  obtain ⟨p1, p2, p3⟩ := p
  simp only at HS HT
  generalize bs x = X at *
  generalize bs p1 = A at *
  generalize bs p2 = B at *
  have q2 : (A.toList == A.toList) = true := by simp
  have q3 : (B.toList == B.toList) = true := by simp
  have q4 : (r == r) = true := by simp
  have q5 : (h == h) = true := by simp
  have q6 : (p3 == p3) = true := by simp
  go_enter Try.func4, Try.ntmps4
  go_wp2_with (first
    | (go_at_call 10; refine (HS.out _).mono ?_; rintro e w1 ⟨rfl, b1⟩)
    | (go_at_call 13; refine (HT.out _).mono ?_; rintro e w2 ⟨rfl, b2⟩)
    | (go_at_call 11; refine (H1.out _).mono ?_; rintro e w5 ⟨rfl, b5⟩)
    | (go_at_call 12; refine (H2.out _).mono ?_; rintro e w6 ⟨rfl, b6⟩)
    | (go_at_call 14; refine (H3.out _).mono ?_; rintro e w7 ⟨rfl, rfl⟩)
    | (go_at_call 15; refine (H4.out _).mono ?_; rintro e w8 ⟨rfl, rfl⟩)
    | (go_at_call 7; refine (HA.out _).mono ?_; rintro e w3 ⟨rfl, b3⟩))
  go_ret
  have s1 := b1.size; have s2 := b2.size; have s3 := b3.size; have s5 := b5.size; have s6 := b6.size
  exact ⟨rfl, (((b1.trans (b2.mono s1)).trans (b3.mono (by omega))).trans (b5.mono (by omega))).trans (b6.mono (by omega))⟩
end Go.Proofs.Ytgbmepfiajinhaa
