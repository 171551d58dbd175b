/- Layer 18: the document's Name; an error that is wrong. -/
import Derived.Test.YtihkhcocfhbekaaDoorGxB
import Derived.LoopTactic
namespace Go.Proofs.YtihkhcocfhbekaaDoor
open Go.RowKit

theorem gexAt_is : atP [gexS] = ⟨#[103, 101, 120, 32]⟩ := by decide +kernel
set_option maxRecDepth 100000 in
theorem wrong18_any {w : World} {t : TypeId} {u : Value} (hg : TypeOfError w) (hv : ErrAt w (.iface t u) [gexS] (some 5)) : Calls Tryd.prog 30 #[.iface t u] w fun e w' => e = .returned (.bool true) ∧ Below w.heap.size w w' := by
  have h := wrong_any hg hv (by simp) (fun x hx => by
    simp only [List.mem_cons, List.not_mem_nil, or_false] at hx
    rw [hx]
    decide)
  rw [gexAt_is] at h
  have HW : Hid (Calls Tryd.prog 17 #[.iface t u, .agg #[.int .i64 5, .string ⟨#[103, 101, 120, 32]⟩]] w fun r w' => r = .returned (.bool true) ∧ Below w.heap.size w w') := h
  clear h hg hv
  go_enter Tryd.func30, Tryd.ntmps30
  go_wp2_with (go_at_call 17; (with_reducible refine HW.out.mono ?_); rintro e w1 ⟨rfl, b1⟩)
  go_ret
  exact ⟨rfl, b1⟩

def nameP (p g : List UInt8) : ByteArray := if 8 + p.length + g.length ≤ 2100 then bs (nameL p g) else ⟨#[]⟩
set_option maxHeartbeats 4000000 in
set_option maxRecDepth 100000 in
theorem r18Name_any (p g : List UInt8) (hp : p.length ≤ 1000000) (hg : g.length ≤ 1000000) (w : World) :
    Calls Tryd.prog 35 #[.agg #[.string (bs p), .string (bs g)]] w fun e w' => e = .returned (.string (nameP p g)) ∧ Below w.heap.size w w' := by
  have hs1 := bs_size p
  have hs2 := bs_size g
  have HU := Lib.hid (fun W => refU32_any p.length (by omega) W)
  have HN := Lib.hid (nameL_eq2 p g)
  have h4 : (bs (pack4 p.length)).size = 4 := by rw [bs_size]; simp [pack4]
  have HG : Hid (gexC = ⟨#[103, 101, 120, 58]⟩) := rfl
  have h8 : (gexC ++ bs (pack4 p.length)).size = 8 := by rw [ByteArray.size_append, h4]; rfl
  have h9 : (gexC ++ bs (pack4 p.length) ++ bs p).size = 8 + p.length := by rw [ByteArray.size_append, h8, hs1]
  have h10 : (bs (nameL p g)).size = 8 + p.length + g.length := by rw [bs_size, nameL_len]
  rw [HG.out] at h8 h9 HN
  clear HG
  have HC : Hid (∀ W, Below (w.alloc (.cells #[.string (bs p), .string (bs g)] 51)).heap.size (w.alloc (.cells #[.string (bs p), .string (bs g)] 51)) W → W.cell? ⟨w.heap.size, 0, none⟩ = some (.string (bs p)) ∧ W.cell? ⟨w.heap.size, 1, none⟩ = some (.string (bs g))) := fun W hb => by
    have h := (Holds.new w 51 #[.string (bs p), .string (bs g)]).moves (Moves.ofBelow (S := nobody) hb) (fun h => h)
    exact ⟨(h.cell 0).trans rfl, (h.cell 1).trans rfl⟩
  have HA : Hid (Below w.heap.size w (w.alloc (.cells #[.string (bs p), .string (bs g)] 51))) := (Below.refl _ _).alloc (Nat.le_refl _) _
  have HR : Hid (Below (w.alloc (.cells #[.string (bs p), .string (bs g)] 51)).heap.size (w.alloc (.cells #[.string (bs p), .string (bs g)] 51)) (w.alloc (.cells #[.string (bs p), .string (bs g)] 51)).drew) := (Below.refl _ _).drew
  obtain ⟨z, q⟩ : ∃ z, decide (((bs (nameL p g)).size : Int) > 2100) = z := ⟨_, rfl⟩
  have HP : Hid (nameP p g = if z = true then ⟨#[]⟩ else bs (nameL p g)) := by
    show nameP p g = _
    unfold nameP
    by_cases hl : 8 + p.length + g.length ≤ 2100
    · rw [if_pos hl, ← q, decide_eq_false (by omega), if_neg (by simp)]
    · rw [if_neg hl, ← q, decide_eq_true (by omega), if_pos rfl]
  have hNe := HN.out
  have HQ := Lib.hid q
  rw [← hNe] at h10
  clear hNe q
  generalize nameP p g = NP at *
  generalize bs (pack4 p.length) = K at *
  generalize p.length = n at *
  generalize g.length = m at *
  generalize bs p = P at *
  generalize bs g = G at *
  obtain ⟨N, hN⟩ : ∃ N, N = bs (nameL p g) := ⟨_, rfl⟩
  rw [← hN] at HN HP HQ
  clear hN
  go_enter Tryd.func35, Tryd.ntmps35
  go_wp2_with fail
  obtain ⟨k0, k1⟩ := HC.out _ HR.out
  go_region_with (first
    | (go_at_call 58; (with_reducible refine (HU.out _).mono ?_); rintro e w1 ⟨rfl, g1⟩; have B1 := Lib.hid (HR.out.trans (g1.mono HR.out.size)); obtain ⟨j0, j1⟩ := HC.out _ B1.out; clear g1))
  all_goals
    rw [HN.out]
    have q := HQ.out
    clear h10 h8 h9 h4
    cases z with
    | true =>
      go_wp2_with fail
      go_ret
      exact ⟨by rw [HP.out]; rfl, HA.out.trans (B1.out.mono HA.out.size)⟩
    | false =>
      go_wp2_with fail
      go_ret
      exact ⟨by rw [HP.out]; rfl, HA.out.trans (B1.out.mono HA.out.size)⟩
end Go.Proofs.YtihkhcocfhbekaaDoor
