/- The walks of the laws NamesSplit and NamesJoin. -/
import Derived.Test.YtfbegkmogdjaiaaDoorNJoin
import Derived.Test.YtfbegkmogdjaiaaDoorNAwake
import Derived.Test.YtfbegkmogdjaiaaDoorNSm
namespace Go.Proofs.YtfbegkmogdjaiaaDoor
open Go.RowKit

theorem part_le (s : List UInt8) : ∀ x ∈ (splitP s).1, x.length ≤ s.length := by
  intro x hx
  have hj := join_parts s
  have hm : ∀ (xs : List (List UInt8)), x ∈ xs → x.length ≤ (joinL xs).length := by
    intro xs
    induction xs with
    | nil => intro h; cases h
    | cons a r ih =>
      intro h
      cases r with
      | nil =>
        rw [joinL_one]
        simp at h
        rw [h]; exact Nat.le_refl _
      | cons b r =>
        rw [joinL_cons, List.length_append, List.length_cons]
        rcases List.mem_cons.1 h with h | h
        · rw [h]; omega
        · have := ih h; omega
  unfold splitP at hx
  split at hx
  · cases hx
  · split at hx
    · have := hm _ hx
      rw [hj] at this
      exact this
    · cases hx
theorem split_len (s : List UInt8) : (splitP s).1.length ≤ 16 := by
  unfold splitP
  split
  · simp
  · split
    · rename_i h
      exact (check_all h).1
    · simp

set_option maxRecDepth 100000 in
theorem NamesSplit_small (s : List UInt8) (hs : s.length ≤ 600) (w : World) (hV : VarAt w) : Calls Tryd.prog 6 #[.string (bs s)] w fun e w' => e = .returned (.bool true) ∧ Below w.heap.size w w' := by
  have hsz := bs_size s
  have HA := Lib.hid awake4_any
  have HN := Lib.hid (nSplit_any s (by omega) w hV)
  have HR := Lib.hid (fun W => rSplit_any s (by omega) W)
  have H1 := Lib.hid (fun W => nRight_any s (by omega) W)
  have H2 := Lib.hid (fun W => rRight_any s (by omega) W)
  have hjs := join_split s
  have hlen := split_len s
  have hpl := part_le s
  have HS := Lib.hid (fun (W : World) (u u' : Value) (hu : TextsAt W u ((splitP s).1.map bs)) (hu' : TextsAt W u' ((splitP s).1.map bs)) => same_any hu hu' (by simp [maxLen]; omega))
  simp only [decide_true] at HS
  have HJ := Lib.hid (fun (W : World) (u : Value) (hu : TextsAt W u ((splitP s).1.map bs)) (hc : ∀ ao cap, u = .slice ao (splitP s).1.length cap → (splitP s).1.length ≤ cap) => nJoin_any hu hc (by omega) (fun x hx => by have := hpl x hx; omega))
  have hle : (bs s).size ≤ 600 := by omega
  generalize rightL s = rs at *
  clear hlen hpl
  generalize splitP s = p at *
  obtain ⟨xs, c⟩ := p
  simp only at HN HR HJ HS hjs
  by_cases hc0 : c = 0
  · subst hc0
    obtain ⟨hj1, hj2⟩ := hjs rfl
    rw [hj1, hj2] at HJ
    simp only [if_true] at HJ
    clear hjs hj1 hj2
    generalize bs s = S at *
    go_enter Tryd.func6, Tryd.ntmps6
    go_wp2_with (first
      | (go_at_call 32; refine HN.out.mono ?_; rintro e w1 ⟨u, rfl, hu, hcap, b1⟩)
      | (go_at_call 33; refine (HR.out _).mono ?_; rintro e w2 ⟨u2, rfl, hu2, b2⟩)
      | (go_at_call 34; refine (HS.out _ _ _ (hu.below b2) hu2).mono ?_; rintro e w3 ⟨rfl, b3⟩)
      | (go_at_call 35; refine (H1.out _).mono ?_; rintro e w4 ⟨rfl, b4⟩)
      | (go_at_call 36; refine (H2.out _).mono ?_; rintro e w5 ⟨rfl, rfl⟩)
      | (go_at_call 37; refine (HJ.out _ _ (((hu.below b2).below b3).below b4) hcap).mono ?_; rintro e w6 ⟨rfl, b6⟩)
      | (go_at_call 31; refine (HA.out _).mono ?_; rintro e w7 ⟨rfl, b7⟩))
    go_ret
    have s1 := b1.size; have s2 := b2.size; have s3 := b3.size; have s4 := b4.size; have s6 := b6.size
    exact ⟨rfl, ((((b1.trans (b2.mono s1)).trans (b3.mono (by omega))).trans (b4.mono (by omega))).trans (b6.mono (by omega))).trans (b7.mono (by omega))⟩
  · have hq : ((c : Int) != 0) = true := by rw [bne_iff_ne]; omega
    clear hjs HJ
    generalize bs s = S at *
    go_enter Tryd.func6, Tryd.ntmps6
    go_wp2_with (first
      | (go_at_call 32; refine HN.out.mono ?_; rintro e w1 ⟨u, rfl, hu, hcap, b1⟩)
      | (go_at_call 33; refine (HR.out _).mono ?_; rintro e w2 ⟨u2, rfl, hu2, b2⟩)
      | (go_at_call 34; refine (HS.out _ _ _ (hu.below b2) hu2).mono ?_; rintro e w3 ⟨rfl, b3⟩)
      | (go_at_call 35; refine (H1.out _).mono ?_; rintro e w4 ⟨rfl, b4⟩)
      | (go_at_call 36; refine (H2.out _).mono ?_; rintro e w5 ⟨rfl, rfl⟩)
      | (go_at_call 31; refine (HA.out _).mono ?_; rintro e w7 ⟨rfl, b7⟩))
    go_ret
    have s1 := b1.size; have s2 := b2.size; have s3 := b3.size; have s4 := b4.size
    exact ⟨rfl, (((b1.trans (b2.mono s1)).trans (b3.mono (by omega))).trans (b4.mono (by omega))).trans (b7.mono (by omega))⟩

set_option maxRecDepth 100000 in
theorem NamesJoin_small (xs : List (List UInt8)) (hl : xs.length ≤ 20) (hs : ∀ x ∈ xs, x.length ≤ 200) (v : Value) (w : World) (hV : VarAt w) (h : TextsAt w v (xs.map bs)) (hcap : ∀ ao cap, v = .slice ao xs.length cap → xs.length ≤ cap) :
    Calls Tryd.prog 7 #[v] w fun e w' => e = .returned (.bool true) ∧ Below w.heap.size w w' := by
  have HA := Lib.hid awake4_any
  have hfw : ∀ y ∈ xs.map bs, y.size ≤ 200 := by
    intro y hy
    obtain ⟨x, hx, rfl⟩ := List.mem_map.1 hy
    rw [bs_size]
    exact hs x hx
  have hf : fewB (xs.map bs) 20 = true := decide_eq_true ⟨by simp; omega, hfw⟩
  have HF := Lib.hid (few_any h (by simp [maxLen]; omega) (fun y hy => by have := hfw y hy; unfold maxLen; omega) 20)
  rw [hf] at HF
  have HJ := Lib.hid (nJoin_any h hcap (by omega) (fun x hx => by have := hs x hx; omega))
  have HW := Lib.hid (fun (W : World) (hb : Below w.heap.size w W) => rWrong_any (h.below hb) (by unfold maxLen; omega) (fun x hx => by have := hs x hx; omega))
  have HR := Lib.hid (fun (W : World) (hb : Below w.heap.size w W) => rJoin_any (h.below hb) (by omega) (fun x hx => by have := hs x hx; omega))
  have hjl := joinL_le 200 xs hs
  have hm : xs.length * (200 + 1) ≤ 20 * 201 := Nat.mul_le_mul hl (Nat.le_refl _)
  by_cases hc0 : checkP xs = 0
  · have hsj := split_join hc0
    have HP := Lib.hid (fun (W : World) (hW : VarAt W) => nSplit_any (joinL xs) (by omega) W hW)
    rw [hsj] at HP
    simp only at HP
    have HS := Lib.hid (fun (W : World) (u : Value) (hb : Below w.heap.size w W) (hu : TextsAt W u (xs.map bs)) => same_any hu (h.below hb) (by simp [maxLen]; omega))
    simp only [decide_true] at HS
    rw [hc0] at HJ HW
    simp only [if_true] at HJ
    have hpos := hV.pos
    clear hcap hsj hc0 hjl hm hf hfw hs
    obtain ⟨ao, cap, rfl, hc⟩ := h
    rw [List.length_map] at *
    clear hc
    generalize bs (joinL xs) = J at *
    go_enter Tryd.func7, Tryd.ntmps7
    go_wp2_with (first
      | (go_at_call 38; refine HF.out.mono ?_; rintro e w0 ⟨rfl, rfl⟩)
      | (go_at_call 37; refine HJ.out.mono ?_; rintro e w1 ⟨rfl, b1⟩)
      | (go_at_call 39; refine (HW.out _ b1).mono ?_; rintro e w2 ⟨rfl, rfl⟩)
      | (go_at_call 32; refine (HP.out _ (hV.below b1 hpos)).mono ?_; rintro e w3 ⟨u, rfl, hu, _, b3⟩)
      | (go_at_call 31; refine (HA.out _).mono ?_; rintro e w4 ⟨rfl, b4⟩
         have s1 := b1.size; have s3 := b3.size
         have bb := (b1.trans (b3.mono s1)).trans (b4.mono (by omega)))
      | (go_at_call 40; refine (HR.out _ bb).mono ?_; rintro e w5 ⟨rfl, rfl⟩)
      | (go_at_call 34; refine (HS.out _ _ bb (hu.below b4)).mono ?_; rintro e w6 ⟨rfl, b6⟩))
    go_ret
    exact ⟨rfl, bb.trans (b6.mono bb.size)⟩
  · have hq : ((checkP xs : Int) != 0) = true := by rw [bne_iff_ne]; omega
    rw [if_neg hc0] at HJ
    clear hcap hjl hm hf hfw hs HR
    obtain ⟨ao, cap, rfl, hc⟩ := h
    rw [List.length_map] at *
    clear hc
    generalize checkP xs = c at *
    go_enter Tryd.func7, Tryd.ntmps7
    go_wp2_with (first
      | (go_at_call 38; refine HF.out.mono ?_; rintro e w0 ⟨rfl, rfl⟩)
      | (go_at_call 37; refine HJ.out.mono ?_; rintro e w1 ⟨rfl, b1⟩)
      | (go_at_call 39; refine (HW.out _ b1).mono ?_; rintro e w2 ⟨rfl, rfl⟩)
      | (go_at_call 31; refine (HA.out _).mono ?_; rintro e w4 ⟨rfl, b4⟩))
    go_ret
    exact ⟨rfl, b1.trans (b4.mono b1.size)⟩
end Go.Proofs.YtfbegkmogdjaiaaDoor
