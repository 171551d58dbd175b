/- Part 27 of what the statement wants. -/
import Derived.Deep.RegionLaw
import Derived.Deep.AppendLies
import Derived.Deep.DeepCutAuto
import Derived.Deep.CutRange
import Derived.LaidEql
import Derived.Stop.Asserts
import Derived.RowKitTokens
import Derived.Test.YtjlbifpbdocahaaGreatDoorPk00
import Derived.Test.YtjlbifpbdocahaaGreatDoorPk25
import Derived.Test.YtjlbifpbdocahaaGreatDoorPk26
namespace Go.Proofs.YtjlbifpbdocahaaGreatDoor
open Go.RowKit

theorem ids_one22 (l : List Int) : ∀ u ∈ idCells l, u.oneCell' = true := fun u hu => by
  obtain ⟨x, _, rfl⟩ := List.mem_map.1 hu
  rfl
theorem idCells_app22 (a b : List Int) : idCells (a ++ b) = idCells a ++ idCells b := by simp [idCells]
section
variable {B A n : Nat} {w0 W : World} {P : List (Int × List UInt8)}
set_option maxHeartbeats 2000000 in
set_option maxRecDepth 100000 in
theorem snData_any (h : Ta B w0 A P n W) (hn : n ≤ 10000) {g : Nat} {l : List (List UInt8)} (hv : Holds W g 9 (l.map fun x => Value.string (bs x)).toArray) (hl : l.length ≤ 100) (hs : ∀ x ∈ l, x.length ≤ 1000000) :
    Calls Tryz.prog 44 #[.pointer (some ⟨A, 0, none⟩), .slice (some ⟨g, 0, none⟩) l.length l.length] W fun e w' => ∃ (ids : List Int) (vr : Value), e = .returned vr ∧ ids.length = l.length ∧ w'.ownsRow W.heap.size 37 1 vr ids.length (idCells ids) ∧ (ids = [] → vr = .slice none 0 0) ∧ Ta B w0 A (dataP l ids ++ P) (n + l.length) w' ∧ Kept W w' := by
  obtain ⟨j0, hj, hy0, hy1, hy2⟩ := info_parts info_id
  have hBW := Nat.le_of_lt h.lt
  have HT := Lib.hid h
  have HS := Lib.hid hs
  have HC : Hid (∀ (w' : World) (k : Nat) (x : List UInt8), Kept W w' → l[k]? = some x → w'.cell? ⟨g, k, none⟩ = some (.string (bs x))) := fun w' k x hk hx => by
    rw [(hk.hold _ _ _ (by decide) (by decide) hv).cell]
    simp [hx]
  clear h hs hv
  go_enter Tryz.func44, Tryz.ntmps44
  go_wp2_with fail
  go_loopw [5, 10] (fun u i wr => ∃ (k : Nat) (ids : List Int), k ≤ l.length ∧ i = .int .i64 (k : Int) ∧ ids.length = k ∧ wr.ownsRow W.heap.size 37 1 u k (idCells ids) ∧ (k = 0 → u = .slice none 0 0) ∧ Ta B w0 A (dataP (l.take k) ids ++ P) (n + k) wr ∧ Kept W wr) (fun _ i _ => l.length - (intOf i).toNat)
  case atStart => exact ⟨0, [], by omega, rfl, rfl, World.ownsRow_nil _ _ _ _, fun _ => rfl, HT.out, Kept.refl _⟩
  case round =>
    obtain ⟨k, ids, hk, rfl, hil, hrow, hnil, hta, hkp⟩ := hrel
    have hbs := hkp.size
    by_cases hlt : k < l.length
    · obtain ⟨x, hx⟩ : ∃ x, l[k]? = some x := ⟨_, List.getElem?_eq_getElem hlt⟩
      have y0 := HC.out wr k x hkp hx
      have hxl := HS.out x (List.mem_of_getElem? hx)
      have HD := Lib.hid (taData hta (by omega) x hxl)
      have hdp : ∀ i : Int, dataP (l.take (k + 1)) (ids ++ [i]) = (i, refDataL x) :: dataP (l.take k) ids := fun i => by
        have e : l.take (k + 1) = l.take k ++ [x] := by
          rw [List.take_succ_eq_append_getElem hlt]
          rw [List.getElem?_eq_getElem hlt] at hx
          rw [Option.some.inj hx]
        rw [e]
        exact dataP_snoc (by rw [hil, List.length_take]; omega) x i
      have HDP := Lib.hid hdp
      have q1 : decide ((k : Int) < (l.length : Int)) = true := decide_eq_true (by omega)
      have HKp := Lib.hid hkp
      obtain ⟨ao, nn, cc, rfl⟩ := row_slice hrow
      have hlo : (0 : Int) ≤ (k : Int) := by omega
      have hhi : (k : Int) < (l.length : Int) := by omega
      clear hx hxl hta hkp hdp hnil HC HS HT
      generalize refDataL x = D at *
      generalize bs x = X at *
      go_wp2_with (first
        | (go_at_call 32; (with_reducible refine HD.out.mono ?_); rintro e w2 ⟨i, rfl, t2, k2⟩; have hrow2 := owns_kept hrow k2 (by decide) (by decide); have hbs2 := k2.size; have K2 := Lib.hid k2; have T2 := Lib.hid t2; clear t2 k2)
        | (at_builtin; refine wpList_append_own _ rfl _ _ 32 rfl W.heap.size 37 j0 _ 1 8 Tryz.underlying32 hj hy0 hy1 hy2 rfl (by decide) _ _ _ rfl (hrow2.alloc _) ⟨w2.heap.size, 0, none⟩ 1 1 [.int .i64 i] rfl rfl (cell_one_new _ _ _) (id_one i) (by unfold maxLen; omega) (by omega) (by simp; omega) ?_; intro v' w3 hown' hg' hnil')
        | go_in)
      have t3 := T2.out.grown hrow2 hBW hg'
      have k3 := (HKp.out.trans K2.out).grown hrow2 (Nat.le_refl _) hg'
      have T3 := Lib.hid t3
      have K3 := Lib.hid k3
      clear t3 k3
      go_roundw
      case rel =>
        refine ⟨k + 1, ids ++ [i], by omega, by go_num, by simp [hil], ?_, fun e => by omega, ?_, K3.out⟩
        · rw [idCells_snoc]; exact hown'
        · rw [HDP.out]; exact T3.out
      case measure => simp [intOf]; omega
    · have hkl : k = l.length := by omega
      subst hkl
      rw [List.take_length] at hta
      obtain ⟨ao, nn, cc, rfl⟩ := row_slice hrow
      have HT2 := Lib.hid hta
      have HK2 := Lib.hid hkp
      have q1 : decide ((l.length : Int) < (l.length : Int)) = false := decide_eq_false (by omega)
      clear hta hkp HC HS HT hlt
      go_wp2_with fail
      go_ret
      refine ⟨ids, _, rfl, hil, by rw [hil]; exact hrow, fun e => hnil (by rw [← hil, e]; rfl), HT2.out, HK2.out⟩

/-- The list of a request. -/
theorem req_list {W1 : World} (hn : n ≤ 1000) (ids : List Int) (l6 : List (List UInt8)) {ks kk : Int} {ts tk : List UInt8} (hi : ids.length = 6) (hl : l6.length = 6) (ms : (ks, ts) ∈ P) (mk : (kk, tk) ∈ P) (W9 : World) (v : Value) (t9 : Ta B w0 A (dataP l6 ids ++ P) n W9) (hr : W9.ownsRow W1.heap.size 37 1 v 8 (idCells ([ks] ++ ids ++ [kk]))) :
    Calls Tryz.prog 45 #[.pointer (some ⟨A, 0, none⟩), v] W9 (TaPost B w0 A (dataP l6 ids ++ P) (n + 1) W9 (refListL ([ts] ++ l6.map refDataL ++ [tk]))) := by
  have hz : ids.length = (l6.map refDataL).length := by simp [hi, hl]
  have zin : ∀ q ∈ ids.zip (l6.map refDataL), q ∈ dataP l6 ids := fun q hq => by unfold dataP; rw [List.mem_reverse]; exact hq
  have hI : IdsAt W9 v (([(ks, ts)] ++ ids.zip (l6.map refDataL) ++ [(kk, tk)]).map (·.1)) := by
    have e : ([(ks, ts)] ++ ids.zip (l6.map refDataL) ++ [(kk, tk)]).map (·.1) = [ks] ++ ids ++ [kk] := by
      rw [List.map_append, List.map_append, List.map_fst_zip (Nat.le_of_eq hz)]
      rfl
    rw [e]
    exact IdsAt.ofRow (by simp only [List.length_append, List.length_cons, List.length_nil, hi]; exact hr) (fun e => by simp at e)
  have e2 : ([(ks, ts)] ++ ids.zip (l6.map refDataL) ++ [(kk, tk)]).map (·.2) = [ts] ++ l6.map refDataL ++ [tk] := by
    rw [List.map_append, List.map_append, List.map_snd_zip (Nat.le_of_eq hz.symm)]
    rfl
  rw [← e2]
  refine taList t9 (by omega) _ hI (by simp [hi, hl]) fun q hq => ?_
  simp only [List.mem_append, List.mem_cons, List.not_mem_nil, or_false] at hq
  rcases hq with (rfl | hq) | rfl
  · exact List.mem_append_right _ ms
  · exact List.mem_append_left _ (zin q hq)
  · exact List.mem_append_right _ mk
/-- What stands behind the first append: the session and the data. -/
def RCut (B : Nat) (w0 : World) (A n : Nat) (P : List (Int × List UInt8)) (W1 : World) (l6 : List (List UInt8)) (ks : Int) (v : Value) (W' : World) : Prop :=
  ∃ (ids : List Int) (g c : Nat), v = .slice (some ⟨g, 0, none⟩) 7 c ∧ ids.length = 6 ∧ W'.ownsRow W1.heap.size 37 1 v 7 (idCells ([ks] ++ ids)) ∧ Ta B w0 A (dataP l6 ids ++ P) (n + 6) W' ∧ Kept W1 W'
theorem RCut.mk {W1 W' : World} {l6 : List (List UInt8)} {ks : Int} {ids : List Int} {g c : Nat} (h1 : ids.length = 6) (h2 : W'.ownsRow W1.heap.size 37 1 (.slice (some ⟨g, 0, none⟩) 7 c) 7 ([.int .i64 ks] ++ idCells ids)) (h3 : Ta B w0 A (dataP l6 ids ++ P) (n + 6) W') (h4 : Kept W1 W') : RCut B w0 A n P W1 l6 ks (.slice (some ⟨g, 0, none⟩) 7 c) W' :=
  ⟨ids, g, c, rfl, h1, by rw [idCells_app22]; exact h2, h3, h4⟩
set_option maxHeartbeats 8000000 in
set_option maxRecDepth 100000 in
theorem snRequest_any (h : Ta B w0 A P n W) (hn : n ≤ 900) (u v g : List UInt8) (hu : u.length ≤ 10000) (hv : v.length ≤ 10000) (hg : g.length ≤ 10000) {ks kk : Int} {ts tk : List UInt8} (ms : (ks, ts) ∈ P) (mk : (kk, tk) ∈ P) :
    Calls Tryz.prog 15 #[.pointer (some ⟨A, 0, none⟩), .int .i64 ks, .string (bs u), .string (bs v), .string (bs g), .int .i64 kk] W (TaPost B w0 A P (n + 7) W (reqL ts u v g tk)) := by
  have hH1 := snHas_any h ms
  have hH2 := snHas_any h mk
  have hNo : ts = [] ∨ tk = [] → reqL ts u v g tk = [] := fun hh => by
    unfold reqL refListL
    rw [if_neg]
    rintro ⟨_, h2, _⟩
    rcases hh with rfl | rfl
    · exact h2 [] (by simp) rfl
    · exact h2 [] (by simp) rfl
  by_cases hts : ts = []
  · have e0 : (!ts.isEmpty) = false := by rw [hts]; rfl
    rw [e0] at hH1
    have HH := Lib.hid hH1
    have HT := Lib.hid (h.nonePost22 (m := n + 7) (by omega) (hNo (.inl hts)))
    clear h hH1 hH2 e0 hts hNo
    go_enter Tryz.func15, Tryz.ntmps15
    go_wp2_with (go_at_call 36; (with_reducible refine HH.out.mono ?_); rintro e w1 ⟨rfl, hw⟩; subst hw)
    go_ret
    exact HT.out
  have e1 : (!ts.isEmpty) = true := by cases ts with
    | nil => exact absurd rfl hts
    | cons => rfl
  by_cases htk : tk = []
  · have e0 : (!tk.isEmpty) = false := by rw [htk]; rfl
    rw [e1] at hH1
    rw [e0] at hH2
    have HH := Lib.hid hH1
    have HH2 := Lib.hid hH2
    have HT := Lib.hid (h.nonePost22 (m := n + 7) (by omega) (hNo (.inr htk)))
    clear h hH1 hH2 e0 hts hNo e1 htk
    go_enter Tryz.func15, Tryz.ntmps15
    go_wp2_with (first
      | (go_at_call 36; (with_reducible refine HH.out.mono ?_); rintro e w1 ⟨rfl, hw⟩; subst hw)
      | (go_at_call 36; (with_reducible refine HH2.out.mono ?_); rintro e w1 ⟨rfl, hw⟩; subst hw))
    go_ret
    exact HT.out
  have e2 : (!tk.isEmpty) = true := by cases tk with
    | nil => exact absurd rfl htk
    | cons => rfl
  rw [e1] at hH1
  rw [e2] at hH2
  have HH1 := Lib.hid hH1
  have HH2 := Lib.hid hH2
  obtain ⟨j0, hj, hy0, hy1, hy2⟩ := info_parts info_id
  have HD : Hid (∀ (a : Nat) (X : World), Below W.heap.size W X → Holds X a 9 #[.string ⟨#[50]⟩, .string (bs u), .string (bs v), .string ⟨#[112, 117, 98, 108, 105, 99, 107, 101, 121]⟩, .string ⟨#[1]⟩, .string (bs g)] → Calls Tryz.prog 44 #[.pointer (some ⟨A, 0, none⟩), .slice (some ⟨a, 0, none⟩) 6 6] X fun e w' => ∃ (ids : List Int) (b c : Nat), e = .returned (.slice (some ⟨b, 0, none⟩) 6 c) ∧ ids.length = 6 ∧ w'.ownsRow X.heap.size 37 1 (.slice (some ⟨b, 0, none⟩) 6 c) 6 (idCells ids) ∧ Ta B w0 A (dataP (askL22 u v g) ids ++ P) (n + 6) w' ∧ Kept X w') := fun a X hb hX => by
    refine (snData_any (h.below hb) (by omega) (l := askL22 u v g) hX (by simp [askL22]) (fun x hx => by
      simp only [askL22, List.mem_cons, List.not_mem_nil, or_false] at hx
      rcases hx with rfl | rfl | rfl | rfl | rfl | rfl <;> first | omega | simp)).mono fun e w' ⟨ids, vr, e1, e2, e3, _, e5, e6⟩ => ?_
    have e7 : ids.length = 6 := e2
    rw [e7] at e3
    rcases e3.2 with ⟨_, h0⟩ | ⟨b, cap, cur, rfl, _⟩
    · exact absurd h0 (by decide)
    · exact ⟨ids, b, cap, e1, e7, e3, e5, e6⟩
  have HL : Hid (∀ (ids : List Int) (W9 : World) (x : Value), ids.length = 6 → Ta B w0 A (dataP (askL22 u v g) ids ++ P) (n + 6) W9 → W9.ownsRow W.heap.size 37 1 x 8 (idCells ([ks] ++ ids ++ [kk])) → Calls Tryz.prog 45 #[.pointer (some ⟨A, 0, none⟩), x] W9 (TaPost B w0 A (dataP (askL22 u v g) ids ++ P) (n + 7) W9 (reqL ts u v g tk))) := fun ids W9 x hi t9 hr => req_list (W1 := W) (by omega) ids (askL22 u v g) hi rfl ms mk W9 x t9 hr
  have hBW : B ≤ W.heap.size := Nat.le_of_lt h.lt
  generalize reqL ts u v g tk = RT at *
  generalize askL22 u v g = AL at *
  generalize bs u = U at *
  generalize bs v = V at *
  generalize bs g = G at *
  clear h hH1 hH2 hts hNo e1 htk e2 hu hv hg
  go_enter Tryz.func15, Tryz.ntmps15
  have b1 : Below W.heap.size W ((W.alloc (.cells #[.int .i64 ks] 37)).alloc (.cells #[.string ⟨#[50]⟩, .string U, .string V, .string ⟨#[112, 117, 98, 108, 105, 99, 107, 101, 121]⟩, .string ⟨#[1]⟩, .string G] 9)) := ((Below.refl _ _).alloc (Nat.le_refl _) _).alloc (by simp) _
  have hS6 : Holds ((W.alloc (.cells #[.int .i64 ks] 37)).alloc (.cells #[.string ⟨#[50]⟩, .string U, .string V, .string ⟨#[112, 117, 98, 108, 105, 99, 107, 101, 121]⟩, .string ⟨#[1]⟩, .string G] 9)) (W.heap.size + 1) 9 #[.string ⟨#[50]⟩, .string U, .string V, .string ⟨#[112, 117, 98, 108, 105, 99, 107, 101, 121]⟩, .string ⟨#[1]⟩, .string G] := by
    have := Holds.new (W.alloc (.cells #[.int .i64 ks] 37)) 9 #[.string ⟨#[50]⟩, .string U, .string V, .string ⟨#[112, 117, 98, 108, 105, 99, 107, 101, 121]⟩, .string ⟨#[1]⟩, .string G]
    rwa [World.size_alloc] at this
  have hr1 : ((W.alloc (.cells #[.int .i64 ks] 37)).alloc (.cells #[.string ⟨#[50]⟩, .string U, .string V, .string ⟨#[112, 117, 98, 108, 105, 99, 107, 101, 121]⟩, .string ⟨#[1]⟩, .string G] 9)).ownsRow W.heap.size 37 1 (.slice (some ⟨W.heap.size, 0, none⟩) 1 1) 1 (idCells [ks]) :=
    (show (W.alloc (.cells #[.int .i64 ks] 37)).ownsRow W.heap.size 37 1 (.slice (some ⟨W.heap.size, 0, none⟩) 1 1) 1 (idCells [ks]) from ⟨rfl, .inr ⟨W.heap.size, 1, #[.int .i64 ks], rfl, Nat.le_refl _, heap_alloc_new W _, Nat.le_refl _, by unfold maxLen; omega, rfl, rfl⟩⟩).alloc _
  obtain ⟨W1, hW1⟩ : ∃ W1, W1 = (W.alloc (.cells #[.int .i64 ks] 37)).alloc (.cells #[.string ⟨#[50]⟩, .string U, .string V, .string ⟨#[112, 117, 98, 108, 105, 99, 107, 101, 121]⟩, .string ⟨#[1]⟩, .string G] 9) := ⟨_, rfl⟩
  rw [← hW1] at b1 hS6 hr1
  have HC := Lib.hid (HD.out _ _ b1 hS6)
  have HK1 := Lib.hid (Kept.ofBelow b1)
  have HW1 := Lib.hid hW1.symm
  have HR1 := Lib.hid hr1
  have hs1 := b1.size
  clear HD b1 hS6 hr1 hW1
  go_wp2_with (first
    | (go_at_call 36; (with_reducible refine HH1.out.mono ?_); rintro e w1 ⟨rfl, hw⟩; subst hw)
    | (go_at_call 36; (with_reducible refine HH2.out.mono ?_); rintro e w1 ⟨rfl, hw⟩; subst hw)
    | (go_at_call 44; rw [HW1.out]; (with_reducible refine HC.out.mono ?_); rintro e w2 ⟨ids, b, c, rfl, hi6, hr2, t2, k2⟩; have hr1b := owns_kept HR1.out k2 (by decide) (by decide); have K2 := HK1.out.trans k2; have hs2 := K2.size)
    | (at_builtin; refine wpList_append_own _ rfl _ _ 32 rfl W.heap.size 37 j0 _ 1 8 Tryz.underlying32 hj hy0 hy1 hy2 rfl (by decide) _ _ _ rfl hr1b ⟨b, 0, none⟩ 6 c (idCells ids) rfl (by simp [idCells, hi6]) (hr2.cells rfl) (ids_one22 ids) (by unfold maxLen; omega) (by omega) (by omega) ?_; intro v3 w3 hr3 hg3 hnn3; have mv := (Moves.refl (fun i => (Value.slice (some ⟨W.heap.size, 0, none⟩) 1 1).ownBlock = some i) w2).grown hg3 (fun _ hi => .inl hi); have t3 := t2.pastRow hr1b hBW mv; have k3 := K2.pastRow hr1b (Nat.le_refl _) mv; have hr3b : w3.ownsRow W.heap.size 37 1 v3 7 (idCells ([ks] ++ ids)) := (by rw [idCells_app22]; exact hr3); obtain ⟨ao3, n3, c3, rfl⟩ := row_slice hr3b; have hs3 := k3.size; clear hr3 hg3 hnn3 mv t2 k2 K2 hr1b)
    | (at_builtin; refine wpList_append_own _ rfl _ _ 32 rfl W.heap.size 37 j0 _ 1 8 Tryz.underlying32 hj hy0 hy1 hy2 rfl (by decide) _ _ _ rfl (hr3b.alloc _) ⟨w3.heap.size, 0, none⟩ 1 1 [.int .i64 kk] rfl rfl (cell_one_new w3 _ _) (id_one kk) (by unfold maxLen; omega) (by omega) (by simp; omega) ?_; intro v4 w4 hr4 hg4 hnn4; have t4 := t3.grown hr3b hBW hg4; have k4 := k3.grown hr3b (Nat.le_refl _) hg4; have hr4b : w4.ownsRow W.heap.size 37 1 v4 8 (idCells ([ks] ++ ids ++ [kk])) := (by rw [idCells_app22]; exact hr4); obtain ⟨ao4, n4, c4, rfl⟩ := row_slice hr4b)
    | (go_at_call 45; (with_reducible refine (HL.out _ _ _ hi6 t4 hr4b).mono ?_); rintro e w8 ⟨i, rfl, t8, k8⟩)
    | go_in)
  go_ret
  exact ⟨i, rfl, t8.mono (by omega) (fun q hq => by
    rcases List.mem_cons.1 hq with rfl | hq
    · exact .head _
    · exact .tail _ (List.mem_append_right _ hq)), k4.trans k8⟩
end
end Go.Proofs.YtjlbifpbdocahaaGreatDoor

namespace Go.Proofs.YtjlbifpbdocahaaGreatDoor
open Go.RowKit Go.Extern.Stop Go.Stop Go.Extern

/-- An error in memory: its locations and its number, if it has one. -/
inductive ErrAt (w : World) : Value → List ByteArray → Option Int → Prop
  | none : ErrAt w .nilIface [] none
  | num (e : Int) : ErrAt w (.iface 52 (.int .i64 e)) [] (some e)
  | fault {b : Nat} {x : ByteArray} {v : Value} {path : List ByteArray} {n : Option Int} : b < w.heap.size → w.cell? ⟨b, 0, none⟩ = some (.string x) → w.cell? ⟨b, 1, none⟩ = some v → ErrAt w v path n → ErrAt w (.iface 156 (.pointer (some ⟨b, 0, none⟩))) (x :: path) n
theorem ErrAt.later {w w' : World} {v : Value} {path : List ByteArray} {n : Option Int} (h : ErrAt w v path n) (hb : Below w.heap.size w w') : ErrAt w' v path n := by
  induction h with
  | none => exact .none
  | num e => exact .num e
  | @fault b x v path n h1 h2 h3 _ ih => exact .fault (Nat.lt_of_lt_of_le h1 hb.size) ((hb.cell (p := ⟨b, 0, Option.none⟩) h1).trans h2) ((hb.cell (p := ⟨b, 1, Option.none⟩) h1).trans h3) ih

theorem ErrAt.same {w : World} {v : Value} {path : List ByteArray} {n : Option Int} (h : ErrAt w v path n) : ∀ {path' : List ByteArray} {n' : Option Int}, ErrAt w v path' n' → path = path' ∧ n = n' := by
  induction h with
  | none => intro _ _ k; cases k; exact ⟨rfl, rfl⟩
  | num e => intro _ _ k; cases k; exact ⟨rfl, rfl⟩
  | @fault b x v path n h1 h2 h3 _ ih =>
    intro _ _ k
    cases k with
    | fault k1 k2 k3 k4 =>
      have e2 := h2.symm.trans k2
      have e3 := h3.symm.trans k3
      simp only [Option.some.injEq, Value.string.injEq] at e2 e3
      subst e2 e3
      obtain ⟨rfl, rfl⟩ := ih k4
      exact ⟨rfl, rfl⟩
open Classical in
/-- How many locations. -/
noncomputable def depthAt (w : World) (v : Value) : Nat := if h : ∃ q : List ByteArray × Option Int, ErrAt w v q.1 q.2 then (Classical.choose h).1.length else 0
theorem ErrAt.depth {w : World} {v : Value} {path : List ByteArray} {n : Option Int} (h : ErrAt w v path n) : depthAt w v = path.length := by
  have hx : ∃ q : List ByteArray × Option Int, ErrAt w v q.1 q.2 := ⟨(path, n), h⟩
  unfold depthAt
  rw [dif_pos hx, ((Classical.choose_spec hx).same h).1]


theorem fAt_some (x : ByteArray) (t : TypeId) (u : Value) (w : World) : Calls Tryz.prog 58 #[.string x, .iface t u] w fun r w' => r = .returned (.iface 156 (.pointer (some ⟨w.heap.size, 0, none⟩))) ∧ w' = w.alloc (.cells #[.string x, .iface t u] 158) := by
  go_enter Tryz.func58, Tryz.ntmps58
  go_wp2_with fail
  go_ret
  exact ⟨rfl, rfl⟩
/-- The places in a row, a space behind each. -/
def atP (path : List ByteArray) : ByteArray := path.foldl (fun s x => s ++ x ++ ⟨#[32]⟩) ⟨#[]⟩

theorem atP_size {path : List ByteArray} (k : Nat) (hs : ∀ x ∈ path.take k, x.size ≤ 1000) (hk : k ≤ path.length) : (atP (path.take k)).size ≤ 1001 * k := by
  induction k with
  | zero => exact Nat.zero_le _
  | succ k ih =>
    have hk' : k < path.length := hk
    rw [List.take_succ_eq_append_getElem hk'] at hs ⊢
    have h1 := ih (fun x hx => hs x (List.mem_append.2 (.inl hx))) (by omega)
    have h2 := hs path[k] (List.mem_append.2 (.inr (List.mem_singleton.2 rfl)))
    unfold atP at *
    rw [List.foldl_append]
    simp only [List.foldl_cons, List.foldl_nil, ByteArray.size_append]
    have h32 : (⟨#[32]⟩ : ByteArray).size = 1 := rfl
    omega
end Go.Proofs.YtjlbifpbdocahaaGreatDoor

namespace Go.Proofs.YtjlbifpbdocahaaGreatDoor
open Go.RowKit

/-- A fault in x within a fault in y with the number e. -/
def FaultK (w : World) (b : Nat) (x y : ByteArray) (e : Int) : Prop :=
  ∃ c : Nat, Holds w b 158 #[.string x, .iface 156 (.pointer (some ⟨c, 0, none⟩))] ∧ Holds w c 158 #[.string y, .iface 52 (.int .i64 e)]
theorem FaultK.kept {w w' : World} {b : Nat} {x y : ByteArray} {e : Int} (h : FaultK w b x y e) (k : Kept w w') : FaultK w' b x y e := by
  obtain ⟨c, h1, h2⟩ := h
  exact ⟨c, k.hold _ _ _ (by decide) (by decide) h1, k.hold _ _ _ (by decide) (by decide) h2⟩
theorem FaultK.err {w : World} {b : Nat} {x y : ByteArray} {e : Int} (h : FaultK w b x y e) : ErrAt w (.iface 156 (.pointer (some ⟨b, 0, none⟩))) [x, y] (some e) := by
  obtain ⟨c, h1, h2⟩ := h
  exact .fault h1.lt ((h1.cell 0).trans rfl) ((h1.cell 1).trans rfl) (.fault h2.lt ((h2.cell 0).trans rfl) ((h2.cell 1).trans rfl) (.num e))
set_option maxRecDepth 100000 in
theorem fOf_exact (x : ByteArray) (e : Int) (he : e ≠ 0) (w : World) : Calls Tryz.prog 93 #[.string x, .int .i64 e] w fun r w' => r = .returned (.iface 156 (.pointer (some ⟨w.heap.size, 0, none⟩))) ∧ w' = w.alloc (.cells #[.string x, .iface 52 (.int .i64 e)] 158) := by
  have hq : (e == 0) = false := by simpa using he
  have HA := Lib.hid (fAt_some x 52 (.int .i64 e) w)
  go_enter Tryz.func93, Tryz.ntmps93
  go_wp2_with (go_at_call 58; (with_reducible refine HA.out.mono ?_); rintro r w1 ⟨rfl, rfl⟩)
  go_ret
  exact ⟨rfl, rfl⟩
set_option maxRecDepth 100000 in
theorem snWrong_any (x y : ByteArray) (e : Int) (he : e ≠ 0) (w : World) : Calls Tryz.prog 53 #[.string x, .string y, .int .i64 e] w fun r w' => ∃ b, r = .returned (.iface 156 (.pointer (some ⟨b, 0, none⟩))) ∧ FaultK w' b x y e ∧ Below w.heap.size w w' := by
  have HO := Lib.hid (fOf_exact y e he w)
  have HA := Lib.hid (fun W => fAt_some x 156 (.pointer (some ⟨w.heap.size, 0, none⟩)) W)
  clear he
  go_enter Tryz.func53, Tryz.ntmps53
  go_wp2_with (first
    | (go_at_call 93; (with_reducible refine HO.out.mono ?_); rintro r w1 ⟨rfl, rfl⟩)
    | (go_at_call 58; (with_reducible refine (HA.out _).mono ?_); rintro r w2 ⟨rfl, rfl⟩))
  go_ret
  refine ⟨_, rfl, ⟨w.heap.size, ?_, ?_⟩, ?_⟩
  · have h2 := Holds.new (w.alloc (.cells #[.string y, .iface 52 (.int .i64 e)] 158)) 158 #[.string x, .iface 156 (.pointer (some ⟨w.heap.size, 0, none⟩))]
    rw [World.size_alloc] at h2
    exact h2
  · exact (Holds.new w _ _).moves ((Moves.refl nobody _).alloc _) (fun h => h)
  · exact ((Below.refl _ _).alloc (Nat.le_refl _) _).alloc (by simp) _
end Go.Proofs.YtjlbifpbdocahaaGreatDoor
