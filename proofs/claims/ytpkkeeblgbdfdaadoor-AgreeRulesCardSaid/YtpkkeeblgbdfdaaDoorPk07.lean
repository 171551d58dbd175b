/- Part 7 of what the statement wants. -/
import Derived.Test.YtpkkeeblgbdfdaaDoorPk06
namespace Go.Proofs.YtpkkeeblgbdfdaaDoor
open Go.RowKit Go.Maps Go.WideMaps

/-- What became of a session so far. -/
structure SessV where
  ex : Int
  id : Int
  co : Bool
  ac : Bool
  le : Bool
  en : Bool
def SessV.row (x : SessV) : Array Value := #[.int .i64 x.ex, .int .i64 x.id, .bool x.co, .bool x.ac, .bool x.le, .bool x.en]
def SessV.enc (x : SessV) : Value := .agg x.row
def zeroS : SessV := ⟨0, 0, false, false, false, false⟩
theorem zeroSess (w : World) : (zeroValue 68).run Tryd.prog w = .ok zeroS.enc w := by kernel_rfl
/-- .. with the event at a place. -/
def afterV (S : List Int) (k : Nat) (x : EvV) (s : SessV) : SessV :=
  if x.ki = 1 ∨ x.ki = 2 then ⟨s.ex + 1, if s.ex = 0 then x.dn.ks else s.id, if s.ex = 0 then decide ((k : Int) ∈ S) else s.co, s.ac, s.le, s.en⟩
  else if x.ki = 4 then { s with ac := true } else if x.ki = 5 then { s with le := true } else if x.ki = 6 then { s with en := true } else s
def sessS (S : List Int) (l : List EvV) (z : Int) : Nat → SessV
  | 0 => zeroS
  | k + 1 => match l[k]? with
    | some x => if x.se = z ∧ x.ki ≠ 7 then afterV S k x (sessS S l z k) else sessS S l z k
    | none => sessS S l z k
/-- A function of keys that speaks of sessions. -/
def OfSess (f : Lit → Option Value) (g : Int → SessV) : Prop := ∀ (z : Int) (kl : Lit), keyOf Tryd.prog 3 (.int .i64 z) = some kl → (f kl).getD zeroS.enc = (g z).enc
def askedV (S : List Int) (g : Int → SessV) (k : Nat) (x : EvV) : Bool := if x.ki = 5 then (g x.se).co else decide ((k : Int) ∈ S)
set_option maxHeartbeats 4000000 in
set_option maxRecDepth 100000 in
theorem asked_any {w : World} {p b n k : Nat} {f : Lit → Option Value} {g : Int → SessV} {S : List Int} {v c3 c4 c5 : Value} (h : Holds w p 73 #[.int .i64 (k : Int), v, .map (some b), c3, c4, c5]) (hf : MapF w Tryd.prog 3 b n f) (hg : OfSess f g)
    (hi : IdsAt w v S) (hS : S.Pairwise (· < ·)) (hl : S.length ≤ 1000) (x : EvV) (hx : ∀ u ∈ x.row.toList, CellOk u) :
    Calls Tryd.prog 39 #[.pointer (some ⟨p, 0, none⟩), .agg x.row] w fun e w' => e = .returned (.bool (askedV S g k x)) ∧ Below w.heap.size w w' := by
  obtain ⟨W, hW⟩ : ∃ W, Hid (W = w.alloc (.cells x.row 45)) := ⟨_, Lib.hid rfl⟩
  have BW : Hid (Below w.heap.size w W) := by
    show Below _ _ _
    rw [hW.out]
    exact (Below.refl _ w).alloc (Nat.le_refl _) _
  have K1 : Hid (Holds W w.heap.size 45 x.row) := by
    show Holds _ _ _ _
    rw [hW.out]
    exact Holds.new w _ _
  have hp : Holds W p 73 #[.int .i64 (k : Int), v, .map (some b), c3, c4, c5] := (BW.out.block p h.lt).trans h
  have d0 : W.cell? ⟨w.heap.size, 0, none⟩ = some (.int .i64 x.ki) := (cell_heap K1.out 0).trans (EvV.row_ki x)
  have d1 : W.cell? ⟨w.heap.size, 1, none⟩ = some (.int .i64 x.se) := (cell_heap K1.out 1).trans (EvV.row_se x)
  have d2 : W.cell? ⟨p, 2, none⟩ = some (.map (some b)) := hp.cell 2
  have HS := Lib.hid (isSafe_any hp (hi.keep BW.out.size fun _ _ _ _ _ hlt => BW.out.cell hlt) hS hl)
  have hkey := keyI_ok (EvV.ok_se hx)
  have HK := Lib.hid hkey
  have HF := Lib.hid (hf.below BW.out)
  have HZ := Lib.hid zeroSess
  have HSe := Lib.hid (hg x.se _ hkey)
  have HSr : Hid ((g x.se).enc = .agg #[.int .i64 (g x.se).ex, .int .i64 (g x.se).id, .bool (g x.se).co, .bool (g x.se).ac, .bool (g x.se).le, .bool (g x.se).en]) := rfl
  have HA : Hid (askedV S g k x = if x.ki = 5 then (g x.se).co else decide ((k : Int) ∈ S)) := rfl
  have hse2 := HSe.out
  rw [HSr.out] at hse2
  have HSe := Lib.hid hse2
  clear h hf hg hi hp hx hkey hse2 HSr
  generalize askedV S g k x = z at *
  generalize keyI x.se = kl at *
  generalize (g x.se).co = co at *
  generalize (g x.se).ex = s1 at *
  generalize (g x.se).id = s2 at *
  generalize (g x.se).ac = s3 at *
  generalize (g x.se).le = s4 at *
  generalize (g x.se).en = s5 at *
  generalize decide ((k : Int) ∈ S) = ks at *
  generalize x.se = se at *
  generalize x.ki = ki at *
  generalize x.row = R at *
  by_cases h5 : ki = 5
  · subst h5
    go_enter Tryd.func39, Tryd.ntmps39
    go_upto_region 1 with fail
    rw [← hW.out]
    clear hW
    go_upto_region 2 with fail
    refine wp_region_quiet_gen (by kernel_rfl) (by kernel_rfl) ?_
    intro O hO
    refine wpQuiet_plain rfl (fun K hK => ?_)
    go_simp
    refine hK _ ?_
    clear hK K
    refine wpQuiet_plain rfl (fun K hK => ?_)
    go_simp
    refine hK _ ?_
    clear hK K
    refine wpQuiet_plain rfl (fun K hK => ?_)
    go_simp
    refine hK _ ?_
    clear hK K
    refine wpQuiet_plain rfl (fun K hK => ?_)
    go_simp
    refine hK _ ?_
    clear hK K
    refine wpQuiet_plain rfl (fun K hK => ?_)
    go_simp
    refine hK _ ?_
    clear hK K
    refine wpQuiet_plain rfl (fun K hK => ?_)
    go_simp
    refine hK _ ?_
    clear hK K
    refine wpQuiet_look (by rw [hO]; rfl) _ _ 69 rfl HF.out lawInt31 Tryd.underlying69 zeroS.enc HZ.out rfl (.int .i64 se) kl rfl HK.out ?_
    rw [HSe.out]
    refine wpQuiet_value (by rw [hO]; rfl) (.bool co) (fun n => by kernel_rfl) ?_
    refine wpQuiet_plain rfl (fun K hK => ?_)
    go_simp
    refine hK _ ?_
    clear hK K
    refine wpQuiet_nil ?_
    intro _ hw'
    obtain ⟨nq, hw''⟩ := hw'
    subst hw''
    clear hO O
    go_wp2_with fail
    go_ret
    exact ⟨by rw [HA.out]; rfl, BW.out.os, BW.out.tape, BW.out.output, BW.out.size, BW.out.block⟩
  · have q5 : (ki == 5) = false := by rw [beq_eq_false_iff_ne]; exact h5
    have HA2 : Hid (z = ks) := by show z = ks; rw [HA.out, if_neg h5]
    clear HA h5 HSe HF HK HZ
    go_enter Tryd.func39, Tryd.ntmps39
    go_upto_region 1 with fail
    rw [← hW.out]
    clear hW
    go_wp2_with (first
      | (go_at_call 49; (with_reducible refine HS.out.mono ?_); rintro e w1 ⟨rfl, m1, rfl⟩))
    go_ret
    exact ⟨by rw [HA2.out]; rfl, BW.out.os, BW.out.tape, BW.out.output, BW.out.size, BW.out.block⟩
end Go.Proofs.YtpkkeeblgbdfdaaDoor

namespace Go.Proofs.YtpkkeeblgbdfdaaDoor
open Go.RowKit Go.Maps Go.WideMaps

theorem makeSess (w : World) : (Instr.makeMap 69 none).run Tryd.prog w = .ok (.map (some w.heap.size)) (w.alloc (.map #[] 0)) := by
  simp [Instr.makeMap]
theorem makeInts (w : World) : (Instr.makeMap 70 none).run Tryd.prog w = .ok (.map (some w.heap.size)) (w.alloc (.map #[] 0)) := by
  simp [Instr.makeMap]
theorem makeMarks (w : World) : (Instr.makeMap 71 none).run Tryd.prog w = .ok (.map (some w.heap.size)) (w.alloc (.map #[] 0)) := by
  simp [Instr.makeMap]
/-- Four maps and a past, laid one behind the other. -/
structure PastNew (w : World) (v : Value) (w' : World) : Prop where
  box : Holds w' (w.heap.size + 4) 73 #[.int .i64 0, v, .map (some w.heap.size), .map (some (w.heap.size + 1)), .map (some (w.heap.size + 2)), .map (some (w.heap.size + 3))]
  sess : MapF w' Tryd.prog 3 w.heap.size 0 (fun _ => none)
  taken : MapF w' Tryd.prog 3 (w.heap.size + 1) 0 (fun _ => none)
  first : MapF w' Tryd.prog 82 (w.heap.size + 2) 0 (fun _ => none)
  used : MapF w' Tryd.prog 3 (w.heap.size + 3) 0 (fun _ => none)
  below : Below w.heap.size w w'
theorem PastNew.mk' (w : World) (v : Value) : PastNew w v (((((w.alloc (.map #[] 0)).alloc (.map #[] 0)).alloc (.map #[] 0)).alloc (.map #[] 0)).alloc (.cells #[.int .i64 0, v, .map (some w.heap.size), .map (some (w.heap.size + 1)), .map (some (w.heap.size + 2)), .map (some (w.heap.size + 3))] 73)) := by
  have b : ∀ (W : World) (o : Obj), Below W.heap.size W (W.alloc o) := fun W o => (Below.refl _ _).alloc (Nat.le_refl _) _
  have s1 : (w.alloc (.map #[] 0)).heap.size = w.heap.size + 1 := by simp
  have s2 : ((w.alloc (.map #[] 0)).alloc (.map #[] 0)).heap.size = w.heap.size + 2 := by simp
  have s3 : (((w.alloc (.map #[] 0)).alloc (.map #[] 0)).alloc (.map #[] 0)).heap.size = w.heap.size + 3 := by simp
  have s4 : ((((w.alloc (.map #[] 0)).alloc (.map #[] 0)).alloc (.map #[] 0)).alloc (.map #[] 0)).heap.size = w.heap.size + 4 := by simp
  have m1 := MapF.made w Tryd.prog 3
  have m2 := MapF.made (w.alloc (.map #[] 0)) Tryd.prog 3
  have m3 := MapF.made ((w.alloc (.map #[] 0)).alloc (.map #[] 0)) Tryd.prog 82
  have m4 := MapF.made (((w.alloc (.map #[] 0)).alloc (.map #[] 0)).alloc (.map #[] 0)) Tryd.prog 3
  rw [s1] at m2
  rw [s2] at m3
  rw [s3] at m4
  have hb := Holds.new ((((w.alloc (.map #[] 0)).alloc (.map #[] 0)).alloc (.map #[] 0)).alloc (.map #[] 0)) 73 #[.int .i64 0, v, .map (some w.heap.size), .map (some (w.heap.size + 1)), .map (some (w.heap.size + 2)), .map (some (w.heap.size + 3))]
  rw [s4] at hb
  refine ⟨hb, (((m1.below (b _ _)).below (b _ _)).below (b _ _)).below (b _ _), ((m2.below (b _ _)).below (b _ _)).below (b _ _), (m3.below (b _ _)).below (b _ _), m4.below (b _ _), ?_⟩
  exact ((((((Below.refl w.heap.size w).alloc (Nat.le_refl _) _).alloc (by simp) _).alloc (by simp; omega) _).alloc (by simp; omega) _).alloc (by simp; omega) _)
set_option maxHeartbeats 2000000 in
set_option maxRecDepth 100000 in
theorem newPast_any (v : Value) (hv : ∃ a n c, v = .slice a n c) (w : World) : Calls Tryd.prog 18 #[v] w fun e w' => e = .returned (.pointer (some ⟨w.heap.size + 4, 0, none⟩)) ∧ PastNew w v w' := by
  obtain ⟨a, n, c, rfl⟩ := hv
  have h1 := makeSess
  have h2 := makeInts
  have h3 := makeMarks
  have HP := Lib.hid (PastNew.mk' w (.slice a n c))
  go_enter Tryd.func18, Tryd.ntmps18
  go_wp2_with fail
  go_ret
  exact ⟨rfl, HP.out⟩
end Go.Proofs.YtpkkeeblgbdfdaaDoor
