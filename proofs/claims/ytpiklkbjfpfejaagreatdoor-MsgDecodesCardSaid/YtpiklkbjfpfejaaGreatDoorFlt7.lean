/- locate and Path. -/
import Derived.Test.YtpiklkbjfpfejaaGreatDoorFltB
import Derived.Test.YtpiklkbjfpfejaaGreatDoorStrs
import Derived.Maps.AppendAt
import Derived.BigRegion
namespace Go.Proofs.YtpiklkbjfpfejaaGreatDoor
open Go.RowKit

/-- What lies inside all locations. -/
def innerV (n : Option Int) : Value := match n with | .none => .nilIface | .some e => .iface 31 (.int .i64 e)

theorem own_later {w w' : World} {B n : Nat} {e : TypeId} {size : Nat} {v : Value} {xs : List Value} (h : w.ownsRow B e size v n xs) (hb : Below w.heap.size w w') : w'.ownsRow B e size v n xs := by
  refine ⟨h.1, ?_⟩
  rcases h.2 with hn | ⟨g, cap, cur, rfl, hb', hg, rest⟩
  · exact .inl hn
  · exact .inr ⟨g, cap, cur, rfl, hb', (hb.block g (Array.getElem?_eq_some_iff.1 hg).1).trans hg, rest⟩

set_option maxHeartbeats 2000000 in
set_option maxRecDepth 100000 in
theorem locate_any {w : World} {v : Value} {path : List ByteArray} {n : Option Int} (hg : TypeOfError w) (hv : ErrAt w v path n) (hl : path.length ≤ 1000) :
    Calls Tryz.prog 49 #[v] w fun r w' => ∃ s, r = .returned (.tuple #[s, innerV n]) ∧ w'.ownsRow w.heap.size 9 1 s path.length (strs path) ∧ (path = [] → s = .slice none 0 0) ∧ Below w.heap.size w w' := by
  obtain ⟨i0, hi, hz0, hz1, hz2⟩ := info_parts infoStr
  have HO : Hid (∀ (W : World) (u : Value) (q : List ByteArray), Below w.heap.size w W → ErrAt w u q n → Calls Tryz.prog 65 #[u] W fun r w' => r = .returned (.tuple #[.pointer (headF u).1, .bool (headF u).2]) ∧ Below W.heap.size W w') := fun W u q hb hu => outer_any (hg.later hb) (hu.later hb)
  have HV := Lib.hid hv
  clear hg hv
  go_enter Tryz.func49, Tryz.ntmps49
  go_wp2_with (go_at_call 65; with_reducible refine (HO.out _ _ _ (Below.refl _ _) HV.out).mono ?_; rintro r w1 ⟨rfl, b1⟩)
  go_loopw [0, 4, 5, 6] (fun u s f i wr => ∃ done rest, path = done ++ rest ∧ ErrAt w u rest n ∧ wr.ownsRow w.heap.size 9 1 s done.length (strs done) ∧ (done = [] → s = .slice none 0 0) ∧ f = .pointer (headF u).1 ∧ i = .bool (headF u).2 ∧ Below w.heap.size w wr) (fun u _ _ _ _ => depthAt w u)
  case atStart => exact ⟨[], path, rfl, HV.out, World.ownsRow_nil _ _ _ _, fun _ => rfl, rfl, rfl, b1⟩
  case round =>
    clear b1
    obtain ⟨done, rest, hp, hu, hrow, hnil, rfl, rfl, hbel⟩ := hrel
    have HP := Lib.hid hp
    have hdl : done.length ≤ 1000 := by
      have := congrArg List.length hp
      simp at this
      omega
    clear hp
    cases hu with
    | none =>
      have HR := Lib.hid hrow
      have HN := Lib.hid hnil
      clear hrow hnil
      go_wp2_with fail
      go_ret2
      exact ⟨_, rfl, by rw [HP.out, List.append_nil]; exact HR.out, by rw [HP.out, List.append_nil]; exact HN.out, hbel⟩
    | num e =>
      have HR := Lib.hid hrow
      have HN := Lib.hid hnil
      clear hrow hnil
      go_wp2_with fail
      go_ret2
      exact ⟨_, rfl, by rw [HP.out, List.append_nil]; exact HR.out, by rw [HP.out, List.append_nil]; exact HN.out, hbel⟩
    | @fault b x v1 path1 n1 k1 k2 k3 k4 =>
      have hdep := ErrAt.depth (ErrAt.fault k1 k2 k3 k4)
      have K4 := Lib.hid k4
      have K3 := Lib.hid k3
      have c0 : wr.cell? ⟨b, 0, none⟩ = some (.string x) := (hbel.cell (p := ⟨b, 0, none⟩) k1).trans k2
      have hbs := hbel.size
      rw [show headF (.iface 78 (.pointer (some ⟨b, 0, none⟩))) = (some ⟨b, 0, none⟩, true) from rfl]
      clear k2 k3 k4
      go_wp2_with (first
        | (at_builtin; refine wpList_append_own _ rfl _ _ 45 rfl w.heap.size 9 i0 (.string ⟨#[]⟩) 1 16 Tryz.underlying45 hi hz0 hz1 hz2 rfl (by decide) _ _ _ rfl (hrow.alloc _) ⟨wr.heap.size, 0, none⟩ 1 1 [.string x] rfl rfl (by simpa using cell_one_new wr _ _) (str_one x) (by unfold maxLen; omega) (by omega) (by simp; omega) ?_; intro v' w2 hown' hgrow2 hnil2; have hb2 : Below w.heap.size w w2 := (hbel.alloc hbel.size _).grown hgrow2 (by simp; omega) (fun j hj => by have := (hrow.lt j hj).1; omega); have c1 : w2.cell? ⟨b, 1, none⟩ = some v1 := (hb2.cell (p := ⟨b, 1, none⟩) k1).trans K3.out; have HB2 := Lib.hid hb2; clear hb2)
        | (go_at_call 65; with_reducible refine (HO.out _ _ _ HB2.out K4.out).mono ?_; rintro r w3 ⟨rfl, b3⟩))
      refine ⟨⟨done ++ [x], path1, by rw [HP.out]; simp, K4.out, ?_, by simp, rfl, rfl, HB2.out.trans (b3.mono HB2.out.size)⟩, by rw [K4.out.depth, hdep]; simp⟩
      rw [strs_snoc, List.length_append]
      exact own_later hown' b3

set_option maxRecDepth 100000 in
theorem fPath_any {w : World} {v : Value} {path : List ByteArray} {n : Option Int} (hg : TypeOfError w) (hv : ErrAt w v path n) (hl : path.length ≤ 1000) :
    Calls Tryz.prog 26 #[v] w fun r w' => ∃ s, r = .returned s ∧ TextsAt w' s path ∧ Below w.heap.size w w' := by
  have HL := Lib.hid (locate_any hg hv hl)
  clear hg hv
  go_enter Tryz.func26, Tryz.ntmps26
  go_wp2_with (go_at_call 49; with_reducible refine HL.out.mono ?_; rintro r w1 ⟨s, rfl, hrow, hnil, b1⟩)
  go_ret
  exact ⟨s, rfl, TextsAt.ofRow hrow hnil, b1⟩
end Go.Proofs.YtpiklkbjfpfejaaGreatDoor
