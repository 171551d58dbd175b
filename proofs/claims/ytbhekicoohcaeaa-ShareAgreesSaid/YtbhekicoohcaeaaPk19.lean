/- Part 19 of what the statement wants. -/
import Derived.OpenShut
import Derived.Deep.Slices
import Derived.WideKeyArgs
import Derived.Test.YtbhekicoohcaeaaPk00
import Derived.Test.YtbhekicoohcaeaaPk14
import Derived.Test.YtbhekicoohcaeaaPk17
import Derived.Test.YtbhekicoohcaeaaPk18
namespace Go.Proofs.Ytbhekicoohcaeaa
open Go.RowKit

end Go.Proofs.Ytbhekicoohcaeaa

namespace Go.Proofs.Ytbhekicoohcaeaa
open Go.RowKit

theorem MakesAt.below {w w' : World} {v : Value} {l : List MakeR} (hM : MakesAt w v l) (b0 : Below w.heap.size w w') : MakesAt w' v l := by
  obtain ⟨ao, cap, rfl, hc⟩ := hM
  refine ⟨ao, cap, rfl, fun hne => ?_⟩
  obtain ⟨b, off, e1, hb, h⟩ := hc hne
  refine ⟨b, off, e1, Nat.lt_of_lt_of_le hb b0.size, fun k x hk => ?_⟩
  obtain ⟨c0, c1, c2, c3, c4⟩ := h k x hk
  exact ⟨(b0.cell (p := ⟨b, off + k * 5, none⟩) hb).trans c0, (b0.cell (p := ⟨b, off + k * 5 + 1, none⟩) hb).trans c1, (b0.cell (p := ⟨b, off + k * 5 + 2, none⟩) hb).trans c2, (b0.cell (p := ⟨b, off + k * 5 + 3, none⟩) hb).trans c3, (b0.cell (p := ⟨b, off + k * 5 + 4, none⟩) hb).trans c4⟩
set_option maxRecDepth 100000 in
theorem ShareAgrees_any {w : World} (g o : ByteArray) (hg : g.size ≤ maxLen) (ho : o.size ≤ maxLen) (a0 a1 a2 a3 a4 a5 : Nat) (h0 : a0 ≤ 65535) (h1 : a1 ≤ 65535) (h2 : a2 ≤ 65535) (h3 : a3 ≤ 65535) (h4 : a4 ≤ 65535) (h5 : a5 ≤ 65535) :
    Calls Try.prog 4 #[.string g, .string o, .agg #[.int .u16 (a0 : Int), .int .u16 (a1 : Int), .int .u16 (a2 : Int), .int .u16 (a3 : Int), .int .u16 (a4 : Int), .int .u16 (a5 : Int)]] w fun e w' => e = .returned (.bool true) ∧ Below w.heap.size w w' := by
  unfold maxLen at hg ho
  by_cases hs : (1 ≤ g.size ∧ g.size ≤ 100) ∧ 1 ≤ o.size ∧ o.size ≤ 100
  · obtain ⟨⟨g1, g2⟩, o1, o2⟩ := hs
    by_cases he : g.data.toList = o.data.toList
    · have h := ShareAgrees_same (w := w) g.data.toList (by rw [s_len]; exact g1) (by rw [s_len]; exact g2) a0 a1 a2 a3 a4 a5 h0 h1 h2 h3 h4 h5
      have e : o = g := by rw [← bs_list o, ← he, bs_list]
      rw [bs_list] at h
      rw [e]
      exact h
    · have h := ShareAgrees_other (w := w) g.data.toList o.data.toList (by rw [s_len]; exact g1) (by rw [s_len]; exact g2) (by rw [s_len]; exact o1) (by rw [s_len]; exact o2) he a0 a1 a2 a3 a4 a5 h0 h1 h2 h3 h4 h5
      rw [bs_list, bs_list] at h
      exact h
  · have b0 : Below w.heap.size w (w.alloc (.cells #[.int .u16 (a0 : Int), .int .u16 (a1 : Int), .int .u16 (a2 : Int), .int .u16 (a3 : Int), .int .u16 (a4 : Int), .int .u16 (a5 : Int)] 50)) := (Below.refl _ _).alloc (Nat.le_refl _) _
    have HA := Lib.hid awake19_any
    have HB := Lib.hid b0
    clear b0 h0 h1 h2 h3 h4 h5
    by_cases g1 : g.size < 1
    · have q1 : decide ((g.size : Int) < 1) = true := decide_eq_true (by omega)
      go_enter Try.func4, Try.ntmps4
      go_wp2_with (go_at_call 9; (with_reducible refine (HA.out _).mono ?_); rintro e w8 ⟨rfl, b8⟩)
      go_ret
      exact ⟨rfl, HB.out.trans (b8.mono HB.out.size)⟩
    · have q1 : decide ((g.size : Int) < 1) = false := decide_eq_false (by omega)
      by_cases g2 : g.size > 100
      · have q2 : decide ((g.size : Int) > 100) = true := decide_eq_true (by omega)
        go_enter Try.func4, Try.ntmps4
        go_wp2_with (go_at_call 9; (with_reducible refine (HA.out _).mono ?_); rintro e w8 ⟨rfl, b8⟩)
        go_ret
        exact ⟨rfl, HB.out.trans (b8.mono HB.out.size)⟩
      · have q2 : decide ((g.size : Int) > 100) = false := decide_eq_false (by omega)
        by_cases o1 : o.size < 1
        · have q3 : decide ((o.size : Int) < 1) = true := decide_eq_true (by omega)
          clear hs
          go_enter Try.func4, Try.ntmps4
          go_wp2_with (go_at_call 9; (with_reducible refine (HA.out _).mono ?_); rintro e w8 ⟨rfl, b8⟩)
          go_ret
          exact ⟨rfl, HB.out.trans (b8.mono HB.out.size)⟩
        · have q3 : decide ((o.size : Int) < 1) = false := decide_eq_false (by omega)
          have q4 : decide ((o.size : Int) > 100) = true := decide_eq_true (by omega)
          clear hs
          go_enter Try.func4, Try.ntmps4
          go_wp2_with (go_at_call 9; (with_reducible refine (HA.out _).mono ?_); rintro e w8 ⟨rfl, b8⟩)
          go_ret
          exact ⟨rfl, HB.out.trans (b8.mono HB.out.size)⟩
end Go.Proofs.Ytbhekicoohcaeaa

namespace Go.Proofs.Ytbhekicoohcaeaa
open Go.RowKit Go.WideShapes Go.ChangeShapes Go.Deep

theorem okWide_arrS {P : Program} {w : World} {r : Reach} {b0 : Nat} {t e : TypeId} {n : Nat} {v : Value} (ht : P.underlying t = some (.array n e)) (h : Value.okWide P w r b0 t v) : ∃ cs, v = .agg cs := by
  simp only [Value.okWide, ht] at h
  obtain ⟨cs, h1, _⟩ := h
  exact ⟨cs, h1⟩
section
variable {H : Type} {enc : TypeId × Value → H} {w : World} {base : Nat} {spare : Nat → Bool} {held : Bool}
set_option maxRecDepth 100000 in
theorem cells_el_u16 : Try.prog.cellsOf 48 = 1 := by kernel_rfl
set_option maxRecDepth 100000 in
theorem cells_two_u16 : Try.prog.cellsOf 49 = 2 := by kernel_rfl
set_option maxRecDepth 100000 in
theorem cells_six_u16 : Try.prog.cellsOf 50 = 6 := by kernel_rfl
theorem two_u16 {m : Nat} {c0 c1 : Value} {d : DataW H × List MemPlace} (h : DataW.trod enc Try.prog w base spare held m 49 [c0, c1] = some d) : ∃ a b : Nat, a ≤ 65535 ∧ b ≤ 65535 ∧ c0 = .int .u16 (a : Int) ∧ c1 = .int .u16 (b : Int) := by
  obtain ⟨xs, m', _, _, hlen, hxl, hxs⟩ := DataW.trod_array Try.underlying49 h
  have t0 := hxs 0 (by omega)
  have t1 := hxs 1 (by omega)
  simp only [cells_el_u16] at t0 t1
  match xs, hxl with
  | [y0, y1], _ =>
    simp at t0 t1
    obtain ⟨z0, e0, _, w0⟩ := DataW.trod_int Try.underlying48 t0
    obtain ⟨z1, e1, _, w1⟩ := DataW.trod_int Try.underlying48 t1
    simp at e0 e1
    subst e0 e1
    have b0 := bounds_u16 w0
    have b1 := bounds_u16 w1
    obtain ⟨n0, rfl⟩ : ∃ n : Nat, z0 = n := ⟨z0.toNat, by omega⟩
    obtain ⟨n1, rfl⟩ : ∃ n : Nat, z1 = n := ⟨z1.toNat, by omega⟩
    exact ⟨n0, n1, by omega, by omega, rfl, rfl⟩
set_option maxRecDepth 100000 in
theorem open_six {v : Value} {d : DataW H} {p : List MemPlace} (h : DataW.Trod enc Try.prog w base spare held 50 v d p) (hv : ∃ cs, v = .agg cs) : ∃ a0 a1 a2 a3 a4 a5 : Nat, a0 ≤ 65535 ∧ a1 ≤ 65535 ∧ a2 ≤ 65535 ∧ a3 ≤ 65535 ∧ a4 ≤ 65535 ∧ a5 ≤ 65535 ∧ v = .agg #[.int .u16 (a0 : Int), .int .u16 (a1 : Int), .int .u16 (a2 : Int), .int .u16 (a3 : Int), .int .u16 (a4 : Int), .int .u16 (a5 : Int)] := by
  obtain ⟨cs, rfl⟩ := hv
  obtain ⟨fuel, hf⟩ := h
  obtain ⟨xs, m', _, _, hlen, hxl, hxs⟩ := DataW.trod_array Try.underlying50 hf
  rw [cells_six_u16] at hlen
  obtain ⟨l⟩ := cs
  simp only [Value.cells] at hlen hxs
  match l, hlen with
  | [c0, c1, c2, c3, c4, c5], _ =>
    have t0 := hxs 0 (by omega)
    have t1 := hxs 1 (by omega)
    have t2 := hxs 2 (by omega)
    simp only [cells_two_u16] at t0 t1 t2
    match xs, hxl with
    | [y0, y1, y2], _ =>
      simp at t0 t1 t2
      obtain ⟨a0, a1, h0, h1, rfl, rfl⟩ := two_u16 t0
      obtain ⟨a2, a3, h2, h3, rfl, rfl⟩ := two_u16 t1
      obtain ⟨a4, a5, h4, h5, rfl, rfl⟩ := two_u16 t2
      exact ⟨a0, a1, a2, a3, a4, a5, h0, h1, h2, h3, h4, h5, rfl⟩
end
end Go.Proofs.Ytbhekicoohcaeaa

namespace Go.Proofs.Ytbhekicoohcaeaa
open Go.RowKit Go.WideShapes Go.ChangeShapes Go.Deep
section
variable {H : Type} {enc : TypeId × Value → H} {w : World} {base : Nat} {spare : Nat → Bool} {held : Bool}
end
end Go.Proofs.Ytbhekicoohcaeaa
