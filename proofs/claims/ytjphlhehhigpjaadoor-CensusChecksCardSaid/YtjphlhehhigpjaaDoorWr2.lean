/- locate and Path.
Wrong: is an error one within just these places?
Wrong of an error. -/
import Derived.Test.YtjphlhehhigpjaaDoorFltB
import Derived.Test.YtjphlhehhigpjaaDoorStrs
import Derived.Maps.AppendAt
import Derived.BigRegion
import Derived.Test.YtjphlhehhigpjaaDoorStrP
import Derived.Test.YtjphlhehhigpjaaDoorTexts
import Derived.Deep.RegionHeld3
import Derived.Deep.Cut
namespace Go.Proofs.YtjphlhehhigpjaaDoor
open Go.RowKit

/-- What lies inside all locations. -/
def innerV (n : Option Int) : Value := match n with | .none => .nilIface | .some e => .iface 42 (.int .i64 e)

theorem own_later {w w' : World} {B n : Nat} {e : TypeId} {size : Nat} {v : Value} {xs : List Value} (h : w.ownsRow B e size v n xs) (hb : Below w.heap.size w w') : w'.ownsRow B e size v n xs := by
  refine ⟨h.1, ?_⟩
  rcases h.2 with hn | ⟨g, cap, cur, rfl, hb', hg, rest⟩
  · exact .inl hn
  · exact .inr ⟨g, cap, cur, rfl, hb', (hb.block g (Array.getElem?_eq_some_iff.1 hg).1).trans hg, rest⟩

set_option maxHeartbeats 2000000 in
set_option maxRecDepth 100000 in
theorem locate_any {w : World} {v : Value} {path : List ByteArray} {n : Option Int} (hg : TypeOfError w) (hv : ErrAt w v path n) (hl : path.length ≤ 1000) :
    Calls Tryd.prog 41 #[v] w fun r w' => ∃ s, r = .returned (.tuple #[s, innerV n]) ∧ w'.ownsRow w.heap.size 9 1 s path.length (strs path) ∧ (path = [] → s = .slice none 0 0) ∧ Below w.heap.size w w' := by
  obtain ⟨i0, hi, hz0, hz1, hz2⟩ := info_parts infoStr
  have HO : Hid (∀ (W : World) (u : Value) (q : List ByteArray), Below w.heap.size w W → ErrAt w u q n → Calls Tryd.prog 48 #[u] W fun r w' => r = .returned (.tuple #[.pointer (headF u).1, .bool (headF u).2]) ∧ Below W.heap.size W w') := fun W u q hb hu => outer_any (hg.later hb) (hu.later hb)
  have HV := Lib.hid hv
  clear hg hv
  go_enter Tryd.func41, Tryd.ntmps41
  go_wp2_with (go_at_call 48; with_reducible refine (HO.out _ _ _ (Below.refl _ _) HV.out).mono ?_; rintro r w1 ⟨rfl, b1⟩)
  go_loopw [0, 4, 5, 6] (fun u s f i wr => ∃ done rest, path = done ++ rest ∧ ErrAt w u rest n ∧ wr.ownsRow w.heap.size 9 1 s done.length (strs done) ∧ (done = [] → s = .slice none 0 0) ∧ f = .pointer (headF u).1 ∧ i = .bool (headF u).2 ∧ Below w.heap.size w wr) (fun u _ _ _ _ => depthAt w u)
  case atStart => exact ⟨[], path, rfl, HV.out, World.ownsRow_nil _ _ _ _, fun _ => rfl, rfl, rfl, b1⟩
  case round =>
    clear b1
    obtain ⟨done, rest, hp, hu, hrow, hnil, rfl, rfl, hbel⟩ := hrel
    have HP := Lib.hid hp
    have hdl : done.length ≤ 1000 := by
      have := congrArg List.length hp
      simp at this
      omega
    clear hp
    cases hu with
    | none =>
      have HR := Lib.hid hrow
      have HN := Lib.hid hnil
      clear hrow hnil
      go_wp2_with fail
      go_ret2
      exact ⟨_, rfl, by rw [HP.out, List.append_nil]; exact HR.out, by rw [HP.out, List.append_nil]; exact HN.out, hbel⟩
    | num e =>
      have HR := Lib.hid hrow
      have HN := Lib.hid hnil
      clear hrow hnil
      go_wp2_with fail
      go_ret2
      exact ⟨_, rfl, by rw [HP.out, List.append_nil]; exact HR.out, by rw [HP.out, List.append_nil]; exact HN.out, hbel⟩
    | @fault b x v1 path1 n1 k1 k2 k3 k4 =>
      have hdep := ErrAt.depth (ErrAt.fault k1 k2 k3 k4)
      have K4 := Lib.hid k4
      have K3 := Lib.hid k3
      have c0 : wr.cell? ⟨b, 0, none⟩ = some (.string x) := (hbel.cell (p := ⟨b, 0, none⟩) k1).trans k2
      have hbs := hbel.size
      rw [show headF (.iface 102 (.pointer (some ⟨b, 0, none⟩))) = (some ⟨b, 0, none⟩, true) from rfl]
      clear k2 k3 k4
      go_wp2_with (first
        | (at_builtin; refine wpList_append_own _ rfl _ _ 23 rfl w.heap.size 9 i0 (.string ⟨#[]⟩) 1 16 Tryd.underlying23 hi hz0 hz1 hz2 rfl (by decide) _ _ _ rfl (hrow.alloc _) ⟨wr.heap.size, 0, none⟩ 1 1 [.string x] rfl rfl (by simpa using cell_one_new wr _ _) (str_one x) (by unfold maxLen; omega) (by omega) (by simp; omega) ?_; intro v' w2 hown' hgrow2 hnil2; have hb2 : Below w.heap.size w w2 := (hbel.alloc hbel.size _).grown hgrow2 (by simp; omega) (fun j hj => by have := (hrow.lt j hj).1; omega); have c1 : w2.cell? ⟨b, 1, none⟩ = some v1 := (hb2.cell (p := ⟨b, 1, none⟩) k1).trans K3.out; have HB2 := Lib.hid hb2; clear hb2)
        | (go_at_call 48; with_reducible refine (HO.out _ _ _ HB2.out K4.out).mono ?_; rintro r w3 ⟨rfl, b3⟩))
      refine ⟨⟨done ++ [x], path1, by rw [HP.out]; simp, K4.out, ?_, by simp, rfl, rfl, HB2.out.trans (b3.mono HB2.out.size)⟩, by rw [K4.out.depth, hdep]; simp⟩
      rw [strs_snoc, List.length_append]
      exact own_later hown' b3

set_option maxRecDepth 100000 in
theorem fPath_any {w : World} {v : Value} {path : List ByteArray} {n : Option Int} (hg : TypeOfError w) (hv : ErrAt w v path n) (hl : path.length ≤ 1000) :
    Calls Tryd.prog 25 #[v] w fun r w' => ∃ s, r = .returned s ∧ TextsAt w' s path ∧ Below w.heap.size w w' := by
  have HL := Lib.hid (locate_any hg hv hl)
  clear hg hv
  go_enter Tryd.func25, Tryd.ntmps25
  go_wp2_with (go_at_call 41; with_reducible refine HL.out.mono ?_; rintro r w1 ⟨s, rfl, hrow, hnil, b1⟩)
  go_ret
  exact ⟨s, rfl, TextsAt.ofRow hrow hnil, b1⟩
end Go.Proofs.YtjphlhehhigpjaaDoor

namespace Go.Proofs.YtjphlhehhigpjaaDoor
open Go.RowKit

set_option maxHeartbeats 1000000 in
set_option maxRecDepth 100000 in
theorem wrong_walk {w : World} {t : TypeId} {u : Value} {path : List ByteArray} {e : Int}
    (HP : Hid (∀ W, Below w.heap.size w W → Calls Tryd.prog 25 #[.iface t u] W fun r w' => ∃ s, r = .returned s ∧ TextsAt w' s path ∧ Below W.heap.size W w'))
    (HCd : Hid (∀ W, Below w.heap.size w W → Calls Tryd.prog 26 #[.iface t u] W fun r w' => r = .returned (.int .i64 e) ∧ Below W.heap.size W w'))
    (hl : path.length ≤ 20) (hs : ∀ x ∈ path, x.size ≤ 1000) :
    Calls Tryd.prog 14 #[.iface t u, .agg #[.int .i64 e, .string (atP path)]] w fun r w' => r = .returned (.bool true) ∧ Below w.heap.size w w' := by
  generalize hA : atP path = A at *
  have HA := Lib.hid hA
  clear hA
  have HB := Lib.hid ((Below.refl w.heap.size w).alloc (Nat.le_refl _) (.cells #[.int .i64 e, .string A] 44))
  have HH := Lib.hid (Holds.new w 44 #[.int .i64 e, .string A])
  go_enter Tryd.func14, Tryd.ntmps14
  go_wp2_with fail
  refine (HP.out _ HB.out).mono ?_
  rintro r w1 ⟨s, rfl, hT, b1⟩
  obtain ⟨ao, cap, rfl, hc⟩ := hT
  have HB1 := Lib.hid (HB.out.trans (b1.mono HB.out.size))
  have HH1 := Lib.hid (HH.out.moves (Moves.ofBelow (S := nobody) b1) (fun h => h))
  have HCl : Hid (∀ W, Below w1.heap.size w1 W → ∀ (k : Nat) x, path[k]? = some x → ∃ b off, ao = some ⟨b, off, none⟩ ∧ W.cell? ⟨b, off + k, none⟩ = some (.string x)) := fun W hb k x hx => by
    obtain ⟨b, off, rfl, hbl, h⟩ := hc (by rintro rfl; simp at hx)
    exact ⟨b, off, rfl, (hb.cell (p := ⟨b, off + k, none⟩) hbl).trans (h k x hx)⟩
  have HS := Lib.hid hs
  clear hc b1 hs
  go_wp2_with fail
  go_loopw [5, 7] (fun s i wr => ∃ (S : ByteArray) (k : Nat), k ≤ path.length ∧ S = atP (path.take k) ∧ s = .string S ∧ i = .int .i64 (k : Int) ∧ Below w1.heap.size w1 wr) (fun _ i _ => path.length - (intOf i).toNat)
  case atStart => exact ⟨_, 0, Nat.zero_le _, rfl, rfl, rfl, Below.refl _ _⟩
  case round =>
    obtain ⟨S, k, hk, hS, rfl, rfl, hb⟩ := hrel
    by_cases hlt : k < path.length
    · have q1 : (k : Int) < (path.length : Int) := by omega
      have q2 : (k : Int) < 20 := by omega
      obtain ⟨x, hx⟩ : ∃ x, path[k]? = some x := ⟨_, List.getElem?_eq_getElem hlt⟩
      obtain ⟨b, off, rfl, y1⟩ := HCl.out _ hb k x hx
      have hxs := HS.out x (List.mem_of_getElem? hx)
      have hSz : S.size ≤ 1001 * k := by rw [hS]; exact atP_size k (fun y hy => HS.out y (List.mem_of_mem_take hy)) hk
      have HN : Hid (S ++ x ++ ⟨#[32]⟩ = atP (path.take (k + 1))) := by
        show S ++ x ++ ⟨#[32]⟩ = atP (path.take (k + 1))
        obtain ⟨hk', rfl⟩ := List.getElem?_eq_some_iff.1 hx
        rw [hS, List.take_succ_eq_append_getElem hk']
        unfold atP
        rw [List.foldl_append]
        rfl
      have h32 : (⟨#[32]⟩ : ByteArray).size = 1 := rfl
      have g1 : ∀ W : World, (Op.stringOp .add S x).run Tryd.prog W = .ok (.string (S ++ x)) W := fun W => run_string_add_sum W _ _ (by omega)
      have g2 : ∀ W : World, (Op.stringOp .add (S ++ x) ⟨#[32]⟩).run Tryd.prog W = .ok (.string (S ++ x ++ ⟨#[32]⟩)) W := fun W => run_string_add_sum W _ _ (by rw [ByteArray.size_append]; omega)
      clear hS hx hSz hxs
      have HBd := Lib.hid hb
      generalize S ++ x ++ ⟨#[32]⟩ = S2 at *
      generalize S ++ x = S1 at *
      go_wp2_with fail
      go_roundw
      case rel => exact ⟨_, k + 1, by omega, HN.out, rfl, by go_num, HBd.out⟩
      case measure => simp [intOf]; omega
    · have hkl : k = path.length := by omega
      have hSA : S = A := by rw [hS, hkl, List.take_length, HA.out]
      subst hSA
      subst hkl
      have hMs := HH1.out.moves (Moves.ofBelow (S := nobody) hb) (fun h => h)
      have hMd : Holds wr.drew w.heap.size 44 #[.int .i64 e, .string S] := hMs
      have y0 := hMd.cell 0
      have y1 := hMd.cell 1
      simp only [List.getElem?_toArray, List.getElem?_cons_zero, List.getElem?_cons_succ] at y0 y1
      have hbd := (HB1.out.trans (hb.mono HB1.out.size)).drew
      have hMl := hMd.lt
      have hq : (S.toList == S.toList) = true := by simp
      clear hlt hMs hb hS HS HCl HA HP
      generalize hMw : w.heap.size = M at *
      go_wp2_with fail
      go_region_held3 (fun w' => w'.cell? ⟨M, 0, none⟩ = some (.int .i64 e) ∧ w'.cell? ⟨M, 1, none⟩ = some (.string S))
        (first | with_reducible exact ⟨y0, y1⟩ | with_reducible exact ⟨z0, z1⟩ | go_keep)
        (first
          | (go_at_call 26; with_reducible refine (HCd.out _ hbd).mono ?_; rintro r w2 ⟨rfl, b2⟩; have hM2 := hMd.moves (Moves.ofBelow (S := nobody) b2) (fun h => h); have z0 := hM2.cell 0; have z1 := hM2.cell 1))
      go_wp2_with fail
      go_ret
      exact ⟨by simp, by rw [hMw]; exact hbd.trans (b2.mono (by rw [← hMw]; exact (by omega)))⟩
end Go.Proofs.YtjphlhehhigpjaaDoor

namespace Go.Proofs.YtjphlhehhigpjaaDoor
open Go.RowKit

theorem wrong_any {w : World} {t : TypeId} {u : Value} {path : List ByteArray} {n : Option Int} (hg : TypeOfError w) (hv : ErrAt w (.iface t u) path n) (hl : path.length ≤ 20) (hs : ∀ x ∈ path, x.size ≤ 1000) :
    Calls Tryd.prog 14 #[.iface t u, .agg #[.int .i64 (n.getD 14), .string (atP path)]] w fun r w' => r = .returned (.bool true) ∧ Below w.heap.size w w' :=
  wrong_walk (Lib.hid fun _ hb => fPath_any (hg.later hb) (hv.later hb) (by omega)) (Lib.hid fun _ hb => fCode_any (hg.later hb) (hv.later hb)) hl hs
end Go.Proofs.YtjphlhehhigpjaaDoor
