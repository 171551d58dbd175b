/- Layer 32: an empty past. -/
import Derived.Test.YtpkkeeblgbdfdaaAg6
namespace Go.Proofs.Ytpkkeeblgbdfdaa
open Go.RowKit Go.Maps Go.WideMaps

theorem makeSess (w : World) : (Instr.makeMap 65 none).run Try.prog w = .ok (.map (some w.heap.size)) (w.alloc (.map #[] 0)) := by
  simp [Instr.makeMap]
theorem makeInts (w : World) : (Instr.makeMap 66 none).run Try.prog w = .ok (.map (some w.heap.size)) (w.alloc (.map #[] 0)) := by
  simp [Instr.makeMap]
theorem makeMarks (w : World) : (Instr.makeMap 67 none).run Try.prog w = .ok (.map (some w.heap.size)) (w.alloc (.map #[] 0)) := by
  simp [Instr.makeMap]
/-- Four maps and a past, laid one behind the other. -/
structure PastNew (w : World) (v : Value) (w' : World) : Prop where
  box : Holds w' (w.heap.size + 4) 69 #[.int .i64 0, v, .map (some w.heap.size), .map (some (w.heap.size + 1)), .map (some (w.heap.size + 2)), .map (some (w.heap.size + 3))]
  sess : MapF w' Try.prog 3 w.heap.size 0 (fun _ => none)
  taken : MapF w' Try.prog 3 (w.heap.size + 1) 0 (fun _ => none)
  first : MapF w' Try.prog 63 (w.heap.size + 2) 0 (fun _ => none)
  used : MapF w' Try.prog 3 (w.heap.size + 3) 0 (fun _ => none)
  below : Below w.heap.size w w'
theorem PastNew.mk' (w : World) (v : Value) : PastNew w v (((((w.alloc (.map #[] 0)).alloc (.map #[] 0)).alloc (.map #[] 0)).alloc (.map #[] 0)).alloc (.cells #[.int .i64 0, v, .map (some w.heap.size), .map (some (w.heap.size + 1)), .map (some (w.heap.size + 2)), .map (some (w.heap.size + 3))] 69)) := by
  have b : ∀ (W : World) (o : Obj), Below W.heap.size W (W.alloc o) := fun W o => (Below.refl _ _).alloc (Nat.le_refl _) _
  have s1 : (w.alloc (.map #[] 0)).heap.size = w.heap.size + 1 := by simp
  have s2 : ((w.alloc (.map #[] 0)).alloc (.map #[] 0)).heap.size = w.heap.size + 2 := by simp
  have s3 : (((w.alloc (.map #[] 0)).alloc (.map #[] 0)).alloc (.map #[] 0)).heap.size = w.heap.size + 3 := by simp
  have s4 : ((((w.alloc (.map #[] 0)).alloc (.map #[] 0)).alloc (.map #[] 0)).alloc (.map #[] 0)).heap.size = w.heap.size + 4 := by simp
  have m1 := MapF.made w Try.prog 3
  have m2 := MapF.made (w.alloc (.map #[] 0)) Try.prog 3
  have m3 := MapF.made ((w.alloc (.map #[] 0)).alloc (.map #[] 0)) Try.prog 63
  have m4 := MapF.made (((w.alloc (.map #[] 0)).alloc (.map #[] 0)).alloc (.map #[] 0)) Try.prog 3
  rw [s1] at m2
  rw [s2] at m3
  rw [s3] at m4
  have hb := Holds.new ((((w.alloc (.map #[] 0)).alloc (.map #[] 0)).alloc (.map #[] 0)).alloc (.map #[] 0)) 69 #[.int .i64 0, v, .map (some w.heap.size), .map (some (w.heap.size + 1)), .map (some (w.heap.size + 2)), .map (some (w.heap.size + 3))]
  rw [s4] at hb
  refine ⟨hb, (((m1.below (b _ _)).below (b _ _)).below (b _ _)).below (b _ _), ((m2.below (b _ _)).below (b _ _)).below (b _ _), (m3.below (b _ _)).below (b _ _), m4.below (b _ _), ?_⟩
  exact ((((((Below.refl w.heap.size w).alloc (Nat.le_refl _) _).alloc (by simp) _).alloc (by simp; omega) _).alloc (by simp; omega) _).alloc (by simp; omega) _)
set_option maxHeartbeats 2000000 in
set_option maxRecDepth 100000 in
theorem newPast_any (v : Value) (hv : ∃ a n c, v = .slice a n c) (w : World) : Calls Try.prog 14 #[v] w fun e w' => e = .returned (.pointer (some ⟨w.heap.size + 4, 0, none⟩)) ∧ PastNew w v w' := by
  obtain ⟨a, n, c, rfl⟩ := hv
  have h1 := makeSess
  have h2 := makeInts
  have h3 := makeMarks
  have HP := Lib.hid (PastNew.mk' w (.slice a n c))
  go_enter Try.func14, Try.ntmps14
  go_wp2_with fail
  go_ret
  exact ⟨rfl, HP.out⟩
end Go.Proofs.Ytpkkeeblgbdfdaa
