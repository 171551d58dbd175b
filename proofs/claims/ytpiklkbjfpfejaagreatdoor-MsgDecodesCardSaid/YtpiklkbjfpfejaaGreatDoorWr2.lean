/- Wrong: is an error one within just these places?
Wrong of an error. -/
import Derived.Test.YtpiklkbjfpfejaaGreatDoorStr
import Derived.Test.YtpiklkbjfpfejaaGreatDoorTexts
import Derived.Deep.RegionHeld3
import Derived.Deep.Cut
import Derived.Test.YtpiklkbjfpfejaaGreatDoorFlt7
namespace Go.Proofs.YtpiklkbjfpfejaaGreatDoor
open Go.RowKit

/-- The places in a row, a space behind each. -/
def atP (path : List ByteArray) : ByteArray := path.foldl (fun s x => s ++ x ++ ⟨#[32]⟩) ⟨#[]⟩

theorem atP_size {path : List ByteArray} (k : Nat) (hs : ∀ x ∈ path.take k, x.size ≤ 1000) (hk : k ≤ path.length) : (atP (path.take k)).size ≤ 1001 * k := by
  induction k with
  | zero => exact Nat.zero_le _
  | succ k ih =>
    have hk' : k < path.length := hk
    rw [List.take_succ_eq_append_getElem hk'] at hs ⊢
    have h1 := ih (fun x hx => hs x (List.mem_append.2 (.inl hx))) (by omega)
    have h2 := hs path[k] (List.mem_append.2 (.inr (List.mem_singleton.2 rfl)))
    unfold atP at *
    rw [List.foldl_append]
    simp only [List.foldl_cons, List.foldl_nil, ByteArray.size_append]
    have h32 : (⟨#[32]⟩ : ByteArray).size = 1 := rfl
    omega

set_option maxHeartbeats 1000000 in
set_option maxRecDepth 100000 in
theorem wrong_walk {w : World} {t : TypeId} {u : Value} {path : List ByteArray} {e : Int}
    (HP : Hid (∀ W, Below w.heap.size w W → Calls Tryz.prog 26 #[.iface t u] W fun r w' => ∃ s, r = .returned s ∧ TextsAt w' s path ∧ Below W.heap.size W w'))
    (HCd : Hid (∀ W, Below w.heap.size w W → Calls Tryz.prog 27 #[.iface t u] W fun r w' => r = .returned (.int .i64 e) ∧ Below W.heap.size W w'))
    (hl : path.length ≤ 20) (hs : ∀ x ∈ path, x.size ≤ 1000) :
    Calls Tryz.prog 10 #[.iface t u, .agg #[.int .i64 e, .string (atP path)]] w fun r w' => r = .returned (.bool true) ∧ Below w.heap.size w w' := by
  generalize hA : atP path = A at *
  have HA := Lib.hid hA
  clear hA
  have HB := Lib.hid ((Below.refl w.heap.size w).alloc (Nat.le_refl _) (.cells #[.int .i64 e, .string A] 33))
  have HH := Lib.hid (Holds.new w 33 #[.int .i64 e, .string A])
  go_enter Tryz.func10, Tryz.ntmps10
  go_wp2_with fail
  refine (HP.out _ HB.out).mono ?_
  rintro r w1 ⟨s, rfl, hT, b1⟩
  obtain ⟨ao, cap, rfl, hc⟩ := hT
  have HB1 := Lib.hid (HB.out.trans (b1.mono HB.out.size))
  have HH1 := Lib.hid (HH.out.moves (Moves.ofBelow (S := nobody) b1) (fun h => h))
  have HCl : Hid (∀ W, Below w1.heap.size w1 W → ∀ (k : Nat) x, path[k]? = some x → ∃ b off, ao = some ⟨b, off, none⟩ ∧ W.cell? ⟨b, off + k, none⟩ = some (.string x)) := fun W hb k x hx => by
    obtain ⟨b, off, rfl, hbl, h⟩ := hc (by rintro rfl; simp at hx)
    exact ⟨b, off, rfl, (hb.cell (p := ⟨b, off + k, none⟩) hbl).trans (h k x hx)⟩
  have HS := Lib.hid hs
  clear hc b1 hs
  go_wp2_with fail
  go_loopw [5, 7] (fun s i wr => ∃ (S : ByteArray) (k : Nat), k ≤ path.length ∧ S = atP (path.take k) ∧ s = .string S ∧ i = .int .i64 (k : Int) ∧ Below w1.heap.size w1 wr) (fun _ i _ => path.length - (intOf i).toNat)
  case atStart => exact ⟨_, 0, Nat.zero_le _, rfl, rfl, rfl, Below.refl _ _⟩
  case round =>
    obtain ⟨S, k, hk, hS, rfl, rfl, hb⟩ := hrel
    by_cases hlt : k < path.length
    · have q1 : (k : Int) < (path.length : Int) := by omega
      have q2 : (k : Int) < 20 := by omega
      obtain ⟨x, hx⟩ : ∃ x, path[k]? = some x := ⟨_, List.getElem?_eq_getElem hlt⟩
      obtain ⟨b, off, rfl, y1⟩ := HCl.out _ hb k x hx
      have hxs := HS.out x (List.mem_of_getElem? hx)
      have hSz : S.size ≤ 1001 * k := by rw [hS]; exact atP_size k (fun y hy => HS.out y (List.mem_of_mem_take hy)) hk
      have HN : Hid (S ++ x ++ ⟨#[32]⟩ = atP (path.take (k + 1))) := by
        show S ++ x ++ ⟨#[32]⟩ = atP (path.take (k + 1))
        obtain ⟨hk', rfl⟩ := List.getElem?_eq_some_iff.1 hx
        rw [hS, List.take_succ_eq_append_getElem hk']
        unfold atP
        rw [List.foldl_append]
        rfl
      have h32 : (⟨#[32]⟩ : ByteArray).size = 1 := rfl
      have g1 : ∀ W : World, (Op.stringOp .add S x).run Tryz.prog W = .ok (.string (S ++ x)) W := fun W => run_string_add_sum W _ _ (by omega)
      have g2 : ∀ W : World, (Op.stringOp .add (S ++ x) ⟨#[32]⟩).run Tryz.prog W = .ok (.string (S ++ x ++ ⟨#[32]⟩)) W := fun W => run_string_add_sum W _ _ (by rw [ByteArray.size_append]; omega)
      clear hS hx hSz hxs
      have HBd := Lib.hid hb
      generalize S ++ x ++ ⟨#[32]⟩ = S2 at *
      generalize S ++ x = S1 at *
      go_wp2_with fail
      go_roundw
      case rel => exact ⟨_, k + 1, by omega, HN.out, rfl, by go_num, HBd.out⟩
      case measure => simp [intOf]; omega
    · have hkl : k = path.length := by omega
      have hSA : S = A := by rw [hS, hkl, List.take_length, HA.out]
      subst hSA
      subst hkl
      have hMs := HH1.out.moves (Moves.ofBelow (S := nobody) hb) (fun h => h)
      have hMd : Holds wr.drew w.heap.size 33 #[.int .i64 e, .string S] := hMs
      have y0 := hMd.cell 0
      have y1 := hMd.cell 1
      simp only [List.getElem?_toArray, List.getElem?_cons_zero, List.getElem?_cons_succ] at y0 y1
      have hbd := (HB1.out.trans (hb.mono HB1.out.size)).drew
      have hMl := hMd.lt
      have hq : (S.toList == S.toList) = true := by simp
      clear hlt hMs hb hS HS HCl HA HP
      generalize hMw : w.heap.size = M at *
      go_wp2_with fail
      go_region_held3 (fun w' => w'.cell? ⟨M, 0, none⟩ = some (.int .i64 e) ∧ w'.cell? ⟨M, 1, none⟩ = some (.string S))
        (first | with_reducible exact ⟨y0, y1⟩ | with_reducible exact ⟨z0, z1⟩ | go_keep)
        (first
          | (go_at_call 27; with_reducible refine (HCd.out _ hbd).mono ?_; rintro r w2 ⟨rfl, b2⟩; have hM2 := hMd.moves (Moves.ofBelow (S := nobody) b2) (fun h => h); have z0 := hM2.cell 0; have z1 := hM2.cell 1))
      go_wp2_with fail
      go_ret
      exact ⟨by simp, by rw [hMw]; exact hbd.trans (b2.mono (by rw [← hMw]; exact (by omega)))⟩
end Go.Proofs.YtpiklkbjfpfejaaGreatDoor

namespace Go.Proofs.YtpiklkbjfpfejaaGreatDoor
open Go.RowKit

theorem wrong_any {w : World} {t : TypeId} {u : Value} {path : List ByteArray} {n : Option Int} (hg : TypeOfError w) (hv : ErrAt w (.iface t u) path n) (hl : path.length ≤ 20) (hs : ∀ x ∈ path, x.size ≤ 1000) :
    Calls Tryz.prog 10 #[.iface t u, .agg #[.int .i64 (n.getD 14), .string (atP path)]] w fun r w' => r = .returned (.bool true) ∧ Below w.heap.size w w' :=
  wrong_walk (Lib.hid fun _ hb => fPath_any (hg.later hb) (hv.later hb) (by omega)) (Lib.hid fun _ hb => fCode_any (hg.later hb) (hv.later hb)) hl hs
end Go.Proofs.YtpiklkbjfpfejaaGreatDoor
