/- Part 33 of what the statement wants. -/
import Derived.Maps.AppendAt
import Derived.BigRegion
import Derived.Deep.RegionHeld3
import Derived.Deep.Cut
import Derived.Test.YtjlbifpbdocahaaGreatDoorPk00
import Derived.Test.YtjlbifpbdocahaaGreatDoorPk01
import Derived.Test.YtjlbifpbdocahaaGreatDoorPk03
import Derived.Test.YtjlbifpbdocahaaGreatDoorPk29
import Derived.Test.YtjlbifpbdocahaaGreatDoorPk32
namespace Go.Proofs.YtjlbifpbdocahaaGreatDoor
open Go.RowKit

/-- What lies inside all locations. -/
def innerV (n : Option Int) : Value := match n with | .none => .nilIface | .some e => .iface 52 (.int .i64 e)

theorem own_later {w w' : World} {B n : Nat} {e : TypeId} {size : Nat} {v : Value} {xs : List Value} (h : w.ownsRow B e size v n xs) (hb : Below w.heap.size w w') : w'.ownsRow B e size v n xs := by
  refine ⟨h.1, ?_⟩
  rcases h.2 with hn | ⟨g, cap, cur, rfl, hb', hg, rest⟩
  · exact .inl hn
  · exact .inr ⟨g, cap, cur, rfl, hb', (hb.block g (Array.getElem?_eq_some_iff.1 hg).1).trans hg, rest⟩

set_option maxHeartbeats 2000000 in
set_option maxRecDepth 100000 in
theorem locate_any {w : World} {v : Value} {path : List ByteArray} {n : Option Int} (hg : TypeOfError w) (hv : ErrAt w v path n) (hl : path.length ≤ 1000) :
    Calls Tryz.prog 122 #[v] w fun r w' => ∃ s, r = .returned (.tuple #[s, innerV n]) ∧ w'.ownsRow w.heap.size 9 1 s path.length (strs path) ∧ (path = [] → s = .slice none 0 0) ∧ Below w.heap.size w w' := by
  obtain ⟨i0, hi, hz0, hz1, hz2⟩ := info_parts infoStr
  have HO : Hid (∀ (W : World) (u : Value) (q : List ByteArray), Below w.heap.size w W → ErrAt w u q n → Calls Tryz.prog 144 #[u] W fun r w' => r = .returned (.tuple #[.pointer (headF u).1, .bool (headF u).2]) ∧ Below W.heap.size W w') := fun W u q hb hu => outer_any (hg.later hb) (hu.later hb)
  have HV := Lib.hid hv
  clear hg hv
  go_enter Tryz.func122, Tryz.ntmps122
  go_wp2_with (go_at_call 144; with_reducible refine (HO.out _ _ _ (Below.refl _ _) HV.out).mono ?_; rintro r w1 ⟨rfl, b1⟩)
  go_loopw [0, 4, 5, 6] (fun u s f i wr => ∃ done rest, path = done ++ rest ∧ ErrAt w u rest n ∧ wr.ownsRow w.heap.size 9 1 s done.length (strs done) ∧ (done = [] → s = .slice none 0 0) ∧ f = .pointer (headF u).1 ∧ i = .bool (headF u).2 ∧ Below w.heap.size w wr) (fun u _ _ _ _ => depthAt w u)
  case atStart => exact ⟨[], path, rfl, HV.out, World.ownsRow_nil _ _ _ _, fun _ => rfl, rfl, rfl, b1⟩
  case round =>
    clear b1
    obtain ⟨done, rest, hp, hu, hrow, hnil, rfl, rfl, hbel⟩ := hrel
    have HP := Lib.hid hp
    have hdl : done.length ≤ 1000 := by
      have := congrArg List.length hp
      simp at this
      omega
    clear hp
    cases hu with
    | none =>
      have HR := Lib.hid hrow
      have HN := Lib.hid hnil
      clear hrow hnil
      go_wp2_with fail
      go_ret2
      exact ⟨_, rfl, by rw [HP.out, List.append_nil]; exact HR.out, by rw [HP.out, List.append_nil]; exact HN.out, hbel⟩
    | num e =>
      have HR := Lib.hid hrow
      have HN := Lib.hid hnil
      clear hrow hnil
      go_wp2_with fail
      go_ret2
      exact ⟨_, rfl, by rw [HP.out, List.append_nil]; exact HR.out, by rw [HP.out, List.append_nil]; exact HN.out, hbel⟩
    | @fault b x v1 path1 n1 k1 k2 k3 k4 =>
      have hdep := ErrAt.depth (ErrAt.fault k1 k2 k3 k4)
      have K4 := Lib.hid k4
      have K3 := Lib.hid k3
      have c0 : wr.cell? ⟨b, 0, none⟩ = some (.string x) := (hbel.cell (p := ⟨b, 0, none⟩) k1).trans k2
      have hbs := hbel.size
      rw [show headF (.iface 156 (.pointer (some ⟨b, 0, none⟩))) = (some ⟨b, 0, none⟩, true) from rfl]
      clear k2 k3 k4
      go_wp2_with (first
        | (at_builtin; refine wpList_append_own _ rfl _ _ 33 rfl w.heap.size 9 i0 (.string ⟨#[]⟩) 1 16 Tryz.underlying33 hi hz0 hz1 hz2 rfl (by decide) _ _ _ rfl (hrow.alloc _) ⟨wr.heap.size, 0, none⟩ 1 1 [.string x] rfl rfl (by simpa using cell_one_new wr _ _) (str_one x) (by unfold maxLen; omega) (by omega) (by simp; omega) ?_; intro v' w2 hown' hgrow2 hnil2; have hb2 : Below w.heap.size w w2 := (hbel.alloc hbel.size _).grown hgrow2 (by simp; omega) (fun j hj => by have := (hrow.lt j hj).1; omega); have c1 : w2.cell? ⟨b, 1, none⟩ = some v1 := (hb2.cell (p := ⟨b, 1, none⟩) k1).trans K3.out; have HB2 := Lib.hid hb2; clear hb2)
        | (go_at_call 144; with_reducible refine (HO.out _ _ _ HB2.out K4.out).mono ?_; rintro r w3 ⟨rfl, b3⟩))
      refine ⟨⟨done ++ [x], path1, by rw [HP.out]; simp, K4.out, ?_, by simp, rfl, rfl, HB2.out.trans (b3.mono HB2.out.size)⟩, by rw [K4.out.depth, hdep]; simp⟩
      rw [strs_snoc, List.length_append]
      exact own_later hown' b3

set_option maxRecDepth 100000 in
theorem fPath_any {w : World} {v : Value} {path : List ByteArray} {n : Option Int} (hg : TypeOfError w) (hv : ErrAt w v path n) (hl : path.length ≤ 1000) :
    Calls Tryz.prog 66 #[v] w fun r w' => ∃ s, r = .returned s ∧ TextsAt w' s path ∧ Below w.heap.size w w' := by
  have HL := Lib.hid (locate_any hg hv hl)
  clear hg hv
  go_enter Tryz.func66, Tryz.ntmps66
  go_wp2_with (go_at_call 122; with_reducible refine HL.out.mono ?_; rintro r w1 ⟨s, rfl, hrow, hnil, b1⟩)
  go_ret
  exact ⟨s, rfl, TextsAt.ofRow hrow hnil, b1⟩
end Go.Proofs.YtjlbifpbdocahaaGreatDoor

namespace Go.Proofs.YtjlbifpbdocahaaGreatDoor
open Go.RowKit

set_option maxHeartbeats 1000000 in
set_option maxRecDepth 100000 in
theorem wrong_walk {w : World} {t : TypeId} {u : Value} {path : List ByteArray} {e : Int}
    (HP : Hid (∀ W, Below w.heap.size w W → Calls Tryz.prog 66 #[.iface t u] W fun r w' => ∃ s, r = .returned s ∧ TextsAt w' s path ∧ Below W.heap.size W w'))
    (HCd : Hid (∀ W, Below w.heap.size w W → Calls Tryz.prog 67 #[.iface t u] W fun r w' => r = .returned (.int .i64 e) ∧ Below W.heap.size W w'))
    (hl : path.length ≤ 20) (hs : ∀ x ∈ path, x.size ≤ 1000) :
    Calls Tryz.prog 31 #[.iface t u, .agg #[.int .i64 e, .string (atP path)]] w fun r w' => r = .returned (.bool true) ∧ Below w.heap.size w w' := by
  generalize hA : atP path = A at *
  have HA := Lib.hid hA
  clear hA
  have HB := Lib.hid ((Below.refl w.heap.size w).alloc (Nat.le_refl _) (.cells #[.int .i64 e, .string A] 72))
  have HH := Lib.hid (Holds.new w 72 #[.int .i64 e, .string A])
  go_enter Tryz.func31, Tryz.ntmps31
  go_wp2_with fail
  refine (HP.out _ HB.out).mono ?_
  rintro r w1 ⟨s, rfl, hT, b1⟩
  obtain ⟨ao, cap, rfl, hc⟩ := hT
  have HB1 := Lib.hid (HB.out.trans (b1.mono HB.out.size))
  have HH1 := Lib.hid (HH.out.moves (Moves.ofBelow (S := nobody) b1) (fun h => h))
  have HCl : Hid (∀ W, Below w1.heap.size w1 W → ∀ (k : Nat) x, path[k]? = some x → ∃ b off, ao = some ⟨b, off, none⟩ ∧ W.cell? ⟨b, off + k, none⟩ = some (.string x)) := fun W hb k x hx => by
    obtain ⟨b, off, rfl, hbl, h⟩ := hc (by rintro rfl; simp at hx)
    exact ⟨b, off, rfl, (hb.cell (p := ⟨b, off + k, none⟩) hbl).trans (h k x hx)⟩
  have HS := Lib.hid hs
  clear hc b1 hs
  go_wp2_with fail
  go_loopw [5, 7] (fun s i wr => ∃ (S : ByteArray) (k : Nat), k ≤ path.length ∧ S = atP (path.take k) ∧ s = .string S ∧ i = .int .i64 (k : Int) ∧ Below w1.heap.size w1 wr) (fun _ i _ => path.length - (intOf i).toNat)
  case atStart => exact ⟨_, 0, Nat.zero_le _, rfl, rfl, rfl, Below.refl _ _⟩
  case round =>
    obtain ⟨S, k, hk, hS, rfl, rfl, hb⟩ := hrel
    by_cases hlt : k < path.length
    · have q1 : (k : Int) < (path.length : Int) := by omega
      have q2 : (k : Int) < 20 := by omega
      obtain ⟨x, hx⟩ : ∃ x, path[k]? = some x := ⟨_, List.getElem?_eq_getElem hlt⟩
      obtain ⟨b, off, rfl, y1⟩ := HCl.out _ hb k x hx
      have hxs := HS.out x (List.mem_of_getElem? hx)
      have hSz : S.size ≤ 1001 * k := by rw [hS]; exact atP_size k (fun y hy => HS.out y (List.mem_of_mem_take hy)) hk
      have HN : Hid (S ++ x ++ ⟨#[32]⟩ = atP (path.take (k + 1))) := by
        show S ++ x ++ ⟨#[32]⟩ = atP (path.take (k + 1))
        obtain ⟨hk', rfl⟩ := List.getElem?_eq_some_iff.1 hx
        rw [hS, List.take_succ_eq_append_getElem hk']
        unfold atP
        rw [List.foldl_append]
        rfl
      have h32 : (⟨#[32]⟩ : ByteArray).size = 1 := rfl
      have g1 : ∀ W : World, (Op.stringOp .add S x).run Tryz.prog W = .ok (.string (S ++ x)) W := fun W => run_string_add_sum W _ _ (by omega)
      have g2 : ∀ W : World, (Op.stringOp .add (S ++ x) ⟨#[32]⟩).run Tryz.prog W = .ok (.string (S ++ x ++ ⟨#[32]⟩)) W := fun W => run_string_add_sum W _ _ (by rw [ByteArray.size_append]; omega)
      clear hS hx hSz hxs
      have HBd := Lib.hid hb
      generalize S ++ x ++ ⟨#[32]⟩ = S2 at *
      generalize S ++ x = S1 at *
      go_wp2_with fail
      go_roundw
      case rel => exact ⟨_, k + 1, by omega, HN.out, rfl, by go_num, HBd.out⟩
      case measure => simp [intOf]; omega
    · have hkl : k = path.length := by omega
      have hSA : S = A := by rw [hS, hkl, List.take_length, HA.out]
      subst hSA
      subst hkl
      have hMs := HH1.out.moves (Moves.ofBelow (S := nobody) hb) (fun h => h)
      have hMd : Holds wr.drew w.heap.size 72 #[.int .i64 e, .string S] := hMs
      have y0 := hMd.cell 0
      have y1 := hMd.cell 1
      simp only [List.getElem?_toArray, List.getElem?_cons_zero, List.getElem?_cons_succ] at y0 y1
      have hbd := (HB1.out.trans (hb.mono HB1.out.size)).drew
      have hMl := hMd.lt
      have hq : (S.toList == S.toList) = true := by simp
      clear hlt hMs hb hS HS HCl HA HP
      generalize hMw : w.heap.size = M at *
      go_wp2_with fail
      go_region_held3 (fun w' => w'.cell? ⟨M, 0, none⟩ = some (.int .i64 e) ∧ w'.cell? ⟨M, 1, none⟩ = some (.string S))
        (first | with_reducible exact ⟨y0, y1⟩ | with_reducible exact ⟨z0, z1⟩ | go_keep)
        (first
          | (go_at_call 67; with_reducible refine (HCd.out _ hbd).mono ?_; rintro r w2 ⟨rfl, b2⟩; have hM2 := hMd.moves (Moves.ofBelow (S := nobody) b2) (fun h => h); have z0 := hM2.cell 0; have z1 := hM2.cell 1))
      go_wp2_with fail
      go_ret
      exact ⟨by simp, by rw [hMw]; exact hbd.trans (b2.mono (by rw [← hMw]; exact (by omega)))⟩
end Go.Proofs.YtjlbifpbdocahaaGreatDoor

namespace Go.Proofs.YtjlbifpbdocahaaGreatDoor
open Go.RowKit

theorem wrong_any {w : World} {t : TypeId} {u : Value} {path : List ByteArray} {n : Option Int} (hg : TypeOfError w) (hv : ErrAt w (.iface t u) path n) (hl : path.length ≤ 20) (hs : ∀ x ∈ path, x.size ≤ 1000) :
    Calls Tryz.prog 31 #[.iface t u, .agg #[.int .i64 (n.getD 14), .string (atP path)]] w fun r w' => r = .returned (.bool true) ∧ Below w.heap.size w w' :=
  wrong_walk (Lib.hid fun _ hb => fPath_any (hg.later hb) (hv.later hb) (by omega)) (Lib.hid fun _ hb => fCode_any (hg.later hb) (hv.later hb)) hl hs
end Go.Proofs.YtjlbifpbdocahaaGreatDoor

namespace Go.Proofs.YtjlbifpbdocahaaGreatDoor
open Go.RowKit

theorem ba_nil_append (x : ByteArray) : (⟨#[]⟩ : ByteArray) ++ x = x := by
  apply ByteArray.ext
  simp
set_option maxHeartbeats 2000000 in
set_option maxRecDepth 100000 in
theorem told22_any {w : World} (hg : TypeOfError w) {c : Nat} {x : ByteArray} {e : Int} {v : Value} (hv : ToldAt w c x e v) (hx : x.size ≤ 100) :
    Calls Tryz.prog 20 #[v, .int .i64 e, .string x, .string (partS c)] w fun r w' => r = .returned (.bool true) ∧ Below w.heap.size w w' := by
  rcases hv with ⟨rfl, rfl⟩ | ⟨rfl, b, rfl, hF⟩ | ⟨rfl, b, rfl, hF⟩
  · rw [show partS 0 = ⟨#[]⟩ from rfl]
    have HR : Hid (Below w.heap.size w w) := Below.refl _ _
    clear hg hx
    go_enter Tryz.func20, Tryz.ntmps20
    go_wp2_with fail
    go_ret
    exact ⟨rfl, HR.out⟩
  · have h := wrong_any hg hF.err (by simp) (fun z hz => by
      simp only [List.mem_cons, List.not_mem_nil, or_false] at hz
      rcases hz with rfl | rfl
      · omega
      · decide)
    have ha : atP [x, keyS] = x ++ ⟨#[32]⟩ ++ keyS ++ ⟨#[32]⟩ := by
      unfold atP
      show ((⟨#[]⟩ ++ x) ++ ⟨#[32]⟩) ++ keyS ++ ⟨#[32]⟩ = _
      rw [ba_nil_append]
    rw [ha] at h
    have HW : Hid (Calls Tryz.prog 31 #[.iface 156 (.pointer (some ⟨b, 0, none⟩)), .agg #[.int .i64 e, .string (x ++ ⟨#[32]⟩ ++ keyS ++ ⟨#[32]⟩)]] w fun r w' => r = .returned (.bool true) ∧ Below w.heap.size w w') := h
    rw [show partS 1 = keyS from rfl]
    have q1 : keyS.toList.isEmpty = false := by rw [ba_toList]; rfl
    have hk : keyS.size = 3 := rfl
    generalize keyS = K at *
    clear h ha hF hg
    go_enter Tryz.func20, Tryz.ntmps20
    go_wp2_with (go_at_call 31; (with_reducible refine HW.out.mono ?_); rintro e w1 ⟨rfl, b1⟩)
    go_ret
    exact ⟨rfl, b1⟩
  · have h := wrong_any hg hF.err (by simp) (fun z hz => by
      simp only [List.mem_cons, List.not_mem_nil, or_false] at hz
      rcases hz with rfl | rfl
      · omega
      · decide)
    have ha : atP [x, sigS] = x ++ ⟨#[32]⟩ ++ sigS ++ ⟨#[32]⟩ := by
      unfold atP
      show ((⟨#[]⟩ ++ x) ++ ⟨#[32]⟩) ++ sigS ++ ⟨#[32]⟩ = _
      rw [ba_nil_append]
    rw [ha] at h
    have HW : Hid (Calls Tryz.prog 31 #[.iface 156 (.pointer (some ⟨b, 0, none⟩)), .agg #[.int .i64 e, .string (x ++ ⟨#[32]⟩ ++ sigS ++ ⟨#[32]⟩)]] w fun r w' => r = .returned (.bool true) ∧ Below w.heap.size w w') := h
    rw [show partS 2 = sigS from rfl]
    have q1 : sigS.toList.isEmpty = false := by rw [ba_toList]; rfl
    have hk : sigS.size = 9 := rfl
    generalize sigS = K at *
    clear h ha hF hg
    go_enter Tryz.func20, Tryz.ntmps20
    go_wp2_with (go_at_call 31; (with_reducible refine HW.out.mono ?_); rintro e w1 ⟨rfl, b1⟩)
    go_ret
    exact ⟨rfl, b1⟩
/-- The page's example, its terms as texts. -/
theorem ex22 : refHashL (refDataL [104]) ≠ [] ∧ hostL [115, 115, 104, 45, 97] 1 (refHashL (refDataL [104])) ≠ [] := by decide +kernel
theorem ex22_one : hostC [115, 115, 104, 45, 97] 1 (pubL 1) (hostL [115, 115, 104, 45, 97] 1 (refHashL (refDataL [104]))) (refHashL (refDataL [104])) = 0 := by
  have h := owner_pub (x := 1) (by omega)
  rw [show ((1 : Nat) : Int) = 1 from rfl] at h
  unfold hostC
  rw [if_pos h, if_pos ⟨ex22.2, rfl⟩]
theorem ex22_two : hostC [115, 115, 104, 45, 97] 1 (pubL 2) (hostL [115, 115, 104, 45, 97] 1 (refHashL (refDataL [104]))) (refHashL (refDataL [104])) = 1 := by
  have h := owner_pub (x := 2) (by omega)
  rw [show ((2 : Nat) : Int) = 2 from rfl] at h
  unfold hostC
  rw [if_neg]
  rw [h]
  simp
theorem ex22_letters : ∃ (x g : List UInt8) (a b : Int), bs x = ⟨#[104]⟩ ∧ bs g = ⟨#[115, 115, 104, 45, 97]⟩ ∧ x.length ≤ 10 ∧ g.length ≤ 10 ∧ a = 1 ∧ b = 2 ∧ hostC g a (pubL a) (hostL g a (refHashL (refDataL x))) (refHashL (refDataL x)) = 0 ∧ hostC g a (pubL b) (hostL g a (refHashL (refDataL x))) (refHashL (refDataL x)) = 1 :=
  ⟨[104], [115, 115, 104, 45, 97], 1, 2, rfl, rfl, by simp, by simp, rfl, rfl, ex22_one, ex22_two⟩
set_option maxHeartbeats 4000000 in
set_option maxRecDepth 100000 in
theorem awake22_any (w : World) (hg : TypeOfError w) : Calls Tryz.prog 8 #[] w fun e w' => e = .returned (.bool true) ∧ Below w.heap.size w w' := by
  obtain ⟨x, g, a, b, ex, eg, lx, lg, ea, eb, E1, E2⟩ := ex22_letters
  have HN := Lib.hid (taNew w)
  have h1 : ∀ (A : Nat) (W : World), Ta w.heap.size w A [] 0 W → Calls Tryz.prog 32 #[.pointer (some ⟨A, 0, none⟩), .string (bs x)] W (TaPost w.heap.size w A [] 1 W (refDataL x)) := fun A W h => taData h (by omega) x (by omega)
  have h2 : ∀ (d : Int) (A : Nat) (W : World), Ta w.heap.size w A [(d, refDataL x)] 1 W → Calls Tryz.prog 24 #[.pointer (some ⟨A, 0, none⟩), .int .i64 d] W (TaPost w.heap.size w A [(d, refDataL x)] 2 W (refHashL (refDataL x))) := fun d A W h => taHash h (by omega) (.head _)
  generalize refDataL x = D at *
  generalize refHashL D = H at *
  have h3 : ∀ (d h : Int) (A : Nat) (W : World), Ta w.heap.size w A [(h, H), (d, D)] 2 W → Calls Tryz.prog 23 #[.pointer (some ⟨A, 0, none⟩), .string (bs g), .int .i64 a, .int .i64 h] W (TaPost w.heap.size w A [(h, H), (d, D)] 4 W (hostL g a H)) := fun d h A W ht => snHost_any ht (by omega) g (by omega) a (.head _)
  generalize hostL g a H = S at *
  have hK1 : ∀ (s h d : Int) (A : Nat) (W : World), Ta w.heap.size w A [(s, S), (h, H), (d, D)] 4 W → Calls Tryz.prog 18 #[.pointer (some ⟨A, 0, none⟩), .int .i64 b] W (TaPost w.heap.size w A [(s, S), (h, H), (d, D)] 5 W (refKeyL b)) := fun s h d A W ht => taKey ht (by omega) b
  have hP1 : ∀ (k s h d : Int) (A : Nat) (W : World), Ta w.heap.size w A [(k, refKeyL b), (s, S), (h, H), (d, D)] 5 W → Calls Tryz.prog 17 #[.pointer (some ⟨A, 0, none⟩), .int .i64 k] W (TaPost w.heap.size w A [(k, refKeyL b), (s, S), (h, H), (d, D)] 6 W (pubL b)) := fun k s h d A W ht => taPub ht (by omega) (.head _)
  have hC1 : ∀ (p k s h d : Int) (A : Nat) (W : World), Ta w.heap.size w A [(p, pubL b), (k, refKeyL b), (s, S), (h, H), (d, D)] 6 W → Calls Tryz.prog 33 #[.pointer (some ⟨A, 0, none⟩), .string (bs g), .int .i64 a, .int .i64 p, .int .i64 s, .int .i64 h] W fun e w' => ∃ v, e = .returned v ∧ ToldAt w' 1 hostS 9 v ∧ Ta w.heap.size w A [(s, S), (h, H), (d, D)] 8 w' ∧ Kept W w' := fun p k s h d A W ht => by
    have h4 := snCheckHost_any ht (by omega) g (by omega) a (kk := p) (ks := s) (kh := h) (.head _) (.tail _ (.tail _ (.head _))) (.tail _ (.tail _ (.tail _ (.head _))))
    rw [E2] at h4
    exact h4.mono fun e w' ⟨v, h5, h6, h7, h8⟩ => ⟨v, h5, h6, h7.mono (Nat.le_refl _) (fun q hq => .tail _ (.tail _ hq)), h8⟩
  have hK2 : ∀ (s h d : Int) (A : Nat) (W : World), Ta w.heap.size w A [(s, S), (h, H), (d, D)] 8 W → Calls Tryz.prog 18 #[.pointer (some ⟨A, 0, none⟩), .int .i64 a] W (TaPost w.heap.size w A [(s, S), (h, H), (d, D)] 9 W (refKeyL a)) := fun s h d A W ht => taKey ht (by omega) a
  have hP2 : ∀ (k s h d : Int) (A : Nat) (W : World), Ta w.heap.size w A [(k, refKeyL a), (s, S), (h, H), (d, D)] 9 W → Calls Tryz.prog 17 #[.pointer (some ⟨A, 0, none⟩), .int .i64 k] W (TaPost w.heap.size w A [(k, refKeyL a), (s, S), (h, H), (d, D)] 10 W (pubL a)) := fun k s h d A W ht => taPub ht (by omega) (.head _)
  have hC2 : ∀ (p k s h d : Int) (A : Nat) (W : World), Ta w.heap.size w A [(p, pubL a), (k, refKeyL a), (s, S), (h, H), (d, D)] 10 W → Calls Tryz.prog 33 #[.pointer (some ⟨A, 0, none⟩), .string (bs g), .int .i64 a, .int .i64 p, .int .i64 s, .int .i64 h] W fun e w' => e = .returned .nilIface ∧ Ta w.heap.size w A [(s, S), (h, H), (d, D)] 12 w' ∧ Kept W w' := fun p k s h d A W ht => by
    have h4 := snCheckHost_any ht (by omega) g (by omega) a (kk := p) (ks := s) (kh := h) (.head _) (.tail _ (.tail _ (.head _))) (.tail _ (.tail _ (.tail _ (.head _))))
    rw [E1] at h4
    refine h4.mono fun e w' ⟨v, h5, h6, h7, h8⟩ => ⟨?_, h7.mono (Nat.le_refl _) (fun q hq => .tail _ (.tail _ hq)), h8⟩
    rcases h6 with ⟨_, rfl⟩ | ⟨h9, _⟩ | ⟨h9, _⟩
    · exact h5
    · exact absurd h9 (by decide)
    · exact absurd h9 (by decide)
  have HT : Hid (∀ (W : World) (v : Value), Below w.heap.size w W → ToldAt W 1 hostS 9 v → Calls Tryz.prog 20 #[v, .int .i64 9, .string ⟨#[104, 111, 115, 116]⟩, .string ⟨#[107, 101, 121]⟩] W fun r w' => r = .returned (.bool true) ∧ Below W.heap.size W w') := fun W v hb hv => by
    have h := told22_any (hg.later hb) hv (by decide)
    rw [show partS 1 = ⟨#[107, 101, 121]⟩ from rfl, show hostS = ⟨#[104, 111, 115, 116]⟩ from rfl] at h
    exact h
  clear E1 E2
  generalize pubL a = PA at *
  generalize pubL b = PB at *
  generalize refKeyL a = KA at *
  generalize refKeyL b = KB at *
  subst ea eb
  rw [ex] at h1
  rw [eg] at h3 hC1 hC2
  have H1 := Lib.hid h1
  have H2 := Lib.hid h2
  have H3 := Lib.hid h3
  have K1 := Lib.hid hK1
  have P1 := Lib.hid hP1
  have C1 := Lib.hid hC1
  have K2 := Lib.hid hK2
  have P2 := Lib.hid hP2
  have C2 := Lib.hid hC2
  clear hg h1 h2 h3 hK1 hP1 hC1 hK2 hP2 hC2 ex eg lx lg
  go_enter Tryz.func8, Tryz.ntmps8
  go_wp2_with (first
    | (go_at_call 9; (with_reducible refine HN.out.mono ?_); rintro e w1 ⟨A, rfl, t1⟩)
    | (go_at_call 32; (with_reducible refine (H1.out _ _ t1).mono ?_); rintro e w2 ⟨d, rfl, t2, _⟩)
    | (go_at_call 24; (with_reducible refine (H2.out _ _ _ t2).mono ?_); rintro e w3 ⟨h, rfl, t3, _⟩)
    | (go_at_call 23; (with_reducible refine (H3.out _ _ _ _ t3).mono ?_); rintro e w4 ⟨s, rfl, t4, _⟩)
    | (go_at_call 18; (with_reducible refine (K1.out _ _ _ _ _ t4).mono ?_); rintro e w5 ⟨k, rfl, t5, _⟩)
    | (go_at_call 17; (with_reducible refine (P1.out _ _ _ _ _ _ t5).mono ?_); rintro e w6 ⟨p, rfl, t6, _⟩)
    | (go_at_call 33; (with_reducible refine (C1.out _ _ _ _ _ _ _ t6).mono ?_); rintro e w7 ⟨v, rfl, f7, t7, _⟩)
    | (go_at_call 18; (with_reducible refine (K2.out _ _ _ _ _ t7).mono ?_); rintro e w8 ⟨k2, rfl, t8, kp8⟩)
    | (go_at_call 17; (with_reducible refine (P2.out _ _ _ _ _ _ t8).mono ?_); rintro e w9 ⟨p2, rfl, t9, kp9⟩)
    | (go_at_call 33; (with_reducible refine (C2.out _ _ _ _ _ _ _ t9).mono ?_); rintro e w10 ⟨rfl, t10, kp10⟩; have f10 := ((f7.kept kp8).kept kp9).kept kp10)
    | (go_at_call 20; (with_reducible refine (HT.out _ _ t10.bel f10).mono ?_); rintro e w11 ⟨rfl, b11⟩; have t11 := t10.below b11)
    | fail)
  go_ret
  exact ⟨rfl, t11.bel⟩
end Go.Proofs.YtjlbifpbdocahaaGreatDoor
