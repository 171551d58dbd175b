/- Layer 18: awake; Name; Curve. -/
import Derived.Test.YtihkhcocfhbekaaDoorGx6
import Derived.Test.YtihkhcocfhbekaaDoorU32
import Derived.Test.YtihkhcocfhbekaaDoorRefU32
import Derived.LoopTactic
import Derived.Deep.RegionHeld3
namespace Go.Proofs.YtihkhcocfhbekaaDoor
open Go.RowKit

theorem pick_awake : pickP 1024 2000 8192 = some 1 := by decide +kernel
set_option maxHeartbeats 1000000 in
set_option maxRecDepth 100000 in
theorem awake18_any {w : World} (hS : Siz w) : Calls Tryd.prog 29 #[] w fun e w' => e = .returned (.bool true) ∧ Below w.heap.size w w' := by
  have HP : Hid (Calls Tryd.prog 25 #[.int .u32 1024, .int .u32 2000, .int .u32 8192] w fun e w' => e = .returned (.tuple #[.agg #[.string (gP 1), .string ⟨#[2]⟩], .nilIface]) ∧ Below w.heap.size w w') := by
    have h := pick_any hS 1024 2000 8192 (by omega) (by omega) (by omega)
    rw [pick_awake] at h
    exact h.mono fun e w' ⟨⟨_, h1⟩, h2⟩ => ⟨h1, h2⟩
  have HBi : Hid (∀ W : World, Calls Tryd.prog 32 #[.agg #[.string (gP 1), .string ⟨#[2]⟩]] W fun e w' => e = .returned (.int .i64 2048) ∧ Below W.heap.size W w') := fun W => by
    have h := gxBits_any (modL (szK 1) (szK 1 / 8)) ⟨#[2]⟩ (by rw [modL_len]; unfold szK; omega) W
    rw [bits_table 1 (by omega)] at h
    exact h
  have HT : Hid (∀ W, Below w.heap.size w W → Calls Tryd.prog 37 #[] W fun e w' => ∃ g c, e = .returned (.slice (some ⟨g, 0, none⟩) 4 c) ∧ Below W.heap.size W w') := fun W hb => (table_any (hS.below hb)).mono fun e w' ⟨g, c, h1, _, h3⟩ => ⟨g, c, h1, h3⟩
  clear hS
  generalize gP 1 = P at *
  go_enter Tryd.func29, Tryd.ntmps29
  go_wp2_with (first
    | (go_at_call 25; (with_reducible refine HP.out.mono ?_); rintro e w1 ⟨rfl, g1⟩; have B1 := Lib.hid (g1.alloc g1.size (.cells #[.string P, .string ⟨#[2]⟩] 51)); clear g1)
    | (go_at_call 32; (with_reducible refine (HBi.out _).mono ?_); rintro e w2 ⟨rfl, g2⟩; have B2 := Lib.hid (B1.out.trans (g2.mono B1.out.size)); clear g2)
    | (go_at_call 37; (with_reducible refine (HT.out _ B2.out).mono ?_); rintro e w3 ⟨g, c, rfl, g3⟩; have B3 := Lib.hid (B2.out.trans (g3.mono B2.out.size)); clear g3))
  go_ret
  exact ⟨rfl, B3.out⟩

def nameL (p g : List UInt8) : List UInt8 := [103, 101, 120, 58] ++ pack4 p.length ++ p ++ g
theorem nameL_len (p g : List UInt8) : (nameL p g).length = 8 + p.length + g.length := by
  simp [nameL, pack4]; omega
def gexC : ByteArray := ⟨#[103, 101, 120, 58]⟩
theorem nameL_eq (p g : List UInt8) : gexC ++ (bs (pack4 p.length) ++ bs p) ++ bs g = bs (nameL p g) := by
  rw [show gexC = bs [103, 101, 120, 58] from rfl, bs_append, bs_append, bs_append]
  simp [nameL]
theorem nameL_eq2 (p g : List UInt8) : gexC ++ bs (pack4 p.length) ++ bs p ++ bs g = bs (nameL p g) := by
  rw [show gexC = bs [103, 101, 120, 58] from rfl, bs_append, bs_append, bs_append]
  simp [nameL]

set_option maxHeartbeats 1000000 in
set_option maxRecDepth 100000 in
theorem gxText_any (l : List UInt8) (hl : l.length ≤ 1000000) (w : World) : Calls Tryd.prog 57 #[.string (bs l)] w fun e w' => e = .returned (.string (bs (pack4 l.length) ++ bs l)) ∧ Below w.heap.size w w' := by
  have hsz := bs_size l
  have HU := Lib.hid (fun W => U32_any l.length (by omega) W)
  have hp : (bs (pack4 l.length)).size ≤ 4 := by rw [bs_size]; simp [pack4]
  rw [← hsz] at HU hp ⊢
  have hl2 : (bs l).size ≤ 1000000 := by omega
  clear hsz hl
  generalize bs l = B at *
  generalize hS : bs (pack4 B.size) = P at *
  have HS := Lib.hid hS
  clear hS
  go_enter Tryd.func57, Tryd.ntmps57
  go_wp2_with (go_at_call 71; refine (HU.out _).mono ?_; rintro e w' ⟨rfl, hb⟩)
  go_ret
  exact ⟨rfl, hb⟩

set_option maxHeartbeats 1000000 in
set_option maxRecDepth 100000 in
theorem gxName_any (p g : List UInt8) (hp : p.length ≤ 1000000) (hg : g.length ≤ 1000000) (w : World) :
    Calls Tryd.prog 34 #[.agg #[.string (bs p), .string (bs g)]] w fun e w' => (8 + p.length + g.length ≤ 2100 → e = .returned (.tuple #[.string (bs (nameL p g)), .int .i64 0])) ∧ (2100 < 8 + p.length + g.length → e = .returned (.tuple #[.string ⟨#[]⟩, .int .i64 2])) ∧ Below w.heap.size w w' := by
  have hs1 := bs_size p
  have hs2 := bs_size g
  have HT := Lib.hid (fun W => gxText_any p hp W)
  have HN := Lib.hid (nameL_eq p g)
  have h4 : (bs (pack4 p.length) ++ bs p).size = 4 + p.length := by rw [ByteArray.size_append, bs_size, bs_size]; simp [pack4]
  have h8 : (gexC ++ (bs (pack4 p.length) ++ bs p)).size = 8 + p.length := by rw [ByteArray.size_append, h4]; show 4 + (4 + p.length) = _; omega
  have HG : Hid (gexC = ⟨#[103, 101, 120, 58]⟩) := rfl
  rw [HG.out] at h8 HN
  clear HG
  have HC : Hid (∀ W, Below (w.alloc (.cells #[.string (bs p), .string (bs g)] 51)).heap.size (w.alloc (.cells #[.string (bs p), .string (bs g)] 51)) W → W.cell? ⟨w.heap.size, 0, none⟩ = some (.string (bs p)) ∧ W.cell? ⟨w.heap.size, 1, none⟩ = some (.string (bs g))) := fun W hb => by
    have h := (Holds.new w 51 #[.string (bs p), .string (bs g)]).moves (Moves.ofBelow (S := nobody) hb) (fun h => h)
    exact ⟨(h.cell 0).trans rfl, (h.cell 1).trans rfl⟩
  have HA : Hid (Below w.heap.size w (w.alloc (.cells #[.string (bs p), .string (bs g)] 51))) := (Below.refl _ _).alloc (Nat.le_refl _) _
  by_cases hl : 8 + p.length + g.length ≤ 2100
  · have q : decide (8 + ((bs p).size : Int) + ((bs g).size : Int) > 2100) = false := decide_eq_false (by omega)
    generalize bs (pack4 p.length) ++ bs p = T at *
    generalize p.length = n at *
    generalize g.length = m at *
    generalize bs (nameL p g) = N at *
    generalize bs p = P at *
    generalize bs g = G at *
    go_enter Tryd.func34, Tryd.ntmps34
    go_wp2_with fail
    have HR : Hid (Below (w.alloc (.cells #[.string P, .string G] 51)).heap.size (w.alloc (.cells #[.string P, .string G] 51)) (w.alloc (.cells #[.string P, .string G] 51)).drew) := (Below.refl _ _).drew
    obtain ⟨k0, k1⟩ := HC.out _ HR.out
    go_region_with (first
      | (go_at_call 57; (with_reducible refine (HT.out _).mono ?_); rintro e w1 ⟨rfl, g1⟩; have B1 := Lib.hid (HR.out.trans (g1.mono HR.out.size)); obtain ⟨j0, j1⟩ := HC.out _ B1.out; clear g1))
    all_goals
      go_wp2_with fail
      go_ret2
      exact ⟨fun _ => by rw [← HN.out]; rfl, fun h => absurd hl (by omega), HA.out.trans (B1.out.mono HA.out.size)⟩
  · have q : decide (8 + ((bs p).size : Int) + ((bs g).size : Int) > 2100) = true := decide_eq_true (by omega)
    clear HT HN h4 h8
    generalize p.length = n at *
    generalize g.length = m at *
    generalize bs (nameL p g) = N at *
    generalize bs p = P at *
    generalize bs g = G at *
    go_enter Tryd.func34, Tryd.ntmps34
    go_wp2_with fail
    go_ret2
    exact ⟨fun h => absurd h hl, fun _ => rfl, HA.out⟩
end Go.Proofs.YtihkhcocfhbekaaDoor
