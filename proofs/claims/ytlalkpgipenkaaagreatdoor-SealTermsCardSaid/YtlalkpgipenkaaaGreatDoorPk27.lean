/- Part 27 of what the statement wants. -/
import Derived.Deep.QuietTactic
import Derived.BigQuiet
import Derived.Deep.RegionHeld3
import Derived.LaidEql
import Derived.Stop.Asserts
import Derived.RowKitTokens
import Derived.Test.YtlalkpgipenkaaaGreatDoorRows
import Derived.LaidLaws
import Derived.LaidMore
import Derived.ChangeSame
import Derived.OpenShut
import Derived.Laws.Rows
import Derived.Test.YtlalkpgipenkaaaGreatDoorPk00
import Derived.Test.YtlalkpgipenkaaaGreatDoorPk01
import Derived.Test.YtlalkpgipenkaaaGreatDoorPk02
import Derived.Test.YtlalkpgipenkaaaGreatDoorPk21
import Derived.Test.YtlalkpgipenkaaaGreatDoorPk24
import Derived.Test.YtlalkpgipenkaaaGreatDoorPk25
import Derived.Test.YtlalkpgipenkaaaGreatDoorPk26
namespace Go.Proofs.YtlalkpgipenkaaaGreatDoor
open Go.RowKit

def QAt (w : World) (Q : Nat) (rest : List UInt8) (err : Int) : Prop := Holds w Q 191 #[.string (bs rest), .int .i64 err]

end Go.Proofs.YtlalkpgipenkaaaGreatDoor

namespace Go.Proofs.YtlalkpgipenkaaaGreatDoor
open Go.RowKit

theorem countedP_err (right : List UInt8 → Bool) {rest : List UInt8} {err : Int} (h : err ≠ 0) : countedP right rest err = ([], rest, err) := by
  have h1 : ∀ (g : List UInt8 → Bool) (n : Int), fixedP g n rest err = ([], rest, err) := fun g n => by unfold fixedP; rw [if_pos h]
  have hu : u32Q rest err = (0, rest, err) := by
    unfold u32Q
    rw [h1]
    rfl
  unfold countedP
  rw [hu]
  show (if (fixedP right _ rest err).2.2 = 0 then _ else _) = _
  rw [h1, if_neg h]
end Go.Proofs.YtlalkpgipenkaaaGreatDoor

namespace Go.Proofs.YtlalkpgipenkaaaGreatDoor
open Go.RowKit

end Go.Proofs.YtlalkpgipenkaaaGreatDoor

namespace Go.Proofs.YtlalkpgipenkaaaGreatDoor
open Go.RowKit

end Go.Proofs.YtlalkpgipenkaaaGreatDoor

namespace Go.Proofs.YtlalkpgipenkaaaGreatDoor
open Go.RowKit

theorem QAt.err {w : World} {R : Nat} {r : List UInt8} {e e' : Int} (h : QAt w R r e) (he : e = e') : QAt w R r e' := he ▸ h
end Go.Proofs.YtlalkpgipenkaaaGreatDoor

namespace Go.Proofs.YtlalkpgipenkaaaGreatDoor
open Go.RowKit


end Go.Proofs.YtlalkpgipenkaaaGreatDoor

namespace Go.Proofs.YtlalkpgipenkaaaGreatDoor
open Go.RowKit

end Go.Proofs.YtlalkpgipenkaaaGreatDoor

namespace Go.Proofs.YtlalkpgipenkaaaGreatDoor
open Go.RowKit Go.Extern.Stop Go.Stop Go.Extern

/-- An error in memory: its locations and its number, if it has one. -/
inductive ErrAt (w : World) : Value → List ByteArray → Option Int → Prop
  | none : ErrAt w .nilIface [] none
  | num (e : Int) : ErrAt w (.iface 43 (.int .i64 e)) [] (some e)
  | fault {b : Nat} {x : ByteArray} {v : Value} {path : List ByteArray} {n : Option Int} : b < w.heap.size → w.cell? ⟨b, 0, none⟩ = some (.string x) → w.cell? ⟨b, 1, none⟩ = some v → ErrAt w v path n → ErrAt w (.iface 169 (.pointer (some ⟨b, 0, none⟩))) (x :: path) n
theorem ErrAt.later {w w' : World} {v : Value} {path : List ByteArray} {n : Option Int} (h : ErrAt w v path n) (hb : Below w.heap.size w w') : ErrAt w' v path n := by
  induction h with
  | none => exact .none
  | num e => exact .num e
  | @fault b x v path n h1 h2 h3 _ ih => exact .fault (Nat.lt_of_lt_of_le h1 hb.size) ((hb.cell (p := ⟨b, 0, Option.none⟩) h1).trans h2) ((hb.cell (p := ⟨b, 1, Option.none⟩) h1).trans h3) ih

theorem ErrAt.same {w : World} {v : Value} {path : List ByteArray} {n : Option Int} (h : ErrAt w v path n) : ∀ {path' : List ByteArray} {n' : Option Int}, ErrAt w v path' n' → path = path' ∧ n = n' := by
  induction h with
  | none => intro _ _ k; cases k; exact ⟨rfl, rfl⟩
  | num e => intro _ _ k; cases k; exact ⟨rfl, rfl⟩
  | @fault b x v path n h1 h2 h3 _ ih =>
    intro _ _ k
    cases k with
    | fault k1 k2 k3 k4 =>
      have e2 := h2.symm.trans k2
      have e3 := h3.symm.trans k3
      simp only [Option.some.injEq, Value.string.injEq] at e2 e3
      subst e2 e3
      obtain ⟨rfl, rfl⟩ := ih k4
      exact ⟨rfl, rfl⟩
open Classical in
/-- How many locations. -/
noncomputable def depthAt (w : World) (v : Value) : Nat := if h : ∃ q : List ByteArray × Option Int, ErrAt w v q.1 q.2 then (Classical.choose h).1.length else 0
theorem ErrAt.depth {w : World} {v : Value} {path : List ByteArray} {n : Option Int} (h : ErrAt w v path n) : depthAt w v = path.length := by
  have hx : ∃ q : List ByteArray × Option Int, ErrAt w v q.1 q.2 := ⟨(path, n), h⟩
  unfold depthAt
  rw [dif_pos hx, ((Classical.choose_spec hx).same h).1]


theorem fAt_some (x : ByteArray) (t : TypeId) (u : Value) (w : World) : Calls Tryz.prog 84 #[.string x, .iface t u] w fun r w' => r = .returned (.iface 169 (.pointer (some ⟨w.heap.size, 0, none⟩))) ∧ w' = w.alloc (.cells #[.string x, .iface t u] 171) := by
  go_enter Tryz.func84, Tryz.ntmps84
  go_wp2_with fail
  go_ret
  exact ⟨rfl, rfl⟩
/-- At of what is an error. -/
theorem fAt_any {w : World} {v : Value} {path : List ByteArray} {n : Option Int} (hv : ErrAt w v path n) (hne : v ≠ .nilIface) (x : ByteArray) : Calls Tryz.prog 84 #[.string x, v] w fun r w' => ∃ v', r = .returned v' ∧ ErrAt w' v' (x :: path) n ∧ v' ≠ .nilIface ∧ Below w.heap.size w w' := by
  obtain ⟨t0, v0, rfl⟩ : ∃ t0 v0, v = .iface t0 v0 := by
    cases hv with
    | none => exact absurd rfl hne
    | num e => exact ⟨_, _, rfl⟩
    | fault _ _ _ _ => exact ⟨_, _, rfl⟩
  refine (fAt_some x t0 v0 w).mono fun r w' ⟨h1, h2⟩ => ⟨_, h1, ?_, by simp, ?_⟩
  · subst h2
    have hN := Holds.new w 171 #[.string x, .iface t0 v0]
    exact .fault (by simp) (hN.cell 0) (hN.cell 1) (hv.later ((Below.refl _ _).alloc (Nat.le_refl _) _))
  · rw [h2]; exact (Below.refl _ _).alloc (Nat.le_refl _) _
theorem fOf_zero (x : ByteArray) (w : World) : Calls Tryz.prog 80 #[.string x, .int .i64 0] w fun r w' => r = .returned .nilIface ∧ w' = w := by
  go_enter Tryz.func80, Tryz.ntmps80
  go_wp2_with fail
  go_ret
  exact ⟨rfl, rfl⟩
theorem fOf_any (x : ByteArray) (e : Int) (he : e ≠ 0) (w : World) : Calls Tryz.prog 80 #[.string x, .int .i64 e] w fun r w' => ∃ v', r = .returned v' ∧ ErrAt w' v' [x] (some e) ∧ v' ≠ .nilIface ∧ Below w.heap.size w w' := by
  have hq : (e == 0) = false := by simpa using he
  have HA := Lib.hid (fAt_any (ErrAt.num (w := w) e) (by simp) x)
  go_enter Tryz.func80, Tryz.ntmps80
  go_wp2_with (go_at_call 84; with_reducible refine HA.out.mono ?_; rintro r w1 ⟨v', rfl, hv, hn, hb⟩)
  go_ret
  exact ⟨v', rfl, hv, hn, hb⟩
end Go.Proofs.YtlalkpgipenkaaaGreatDoor

namespace Go.Proofs.YtlalkpgipenkaaaGreatDoor
open Go.RowKit

/-- The rows of the document's table: number, word, formats. -/
def tableP : List (Int × ByteArray × List ByteArray) :=
  [(1, ⟨#[100, 105, 115, 99, 111, 110, 110, 101, 99, 116]⟩, [⟨#[117, 115, 115]⟩]),
   (2, ⟨#[105, 103, 110, 111, 114, 101]⟩, [⟨#[115]⟩]),
   (3, ⟨#[117, 110, 105, 109, 112, 108, 101, 109, 101, 110, 116, 101, 100]⟩, [⟨#[117]⟩]),
   (4, ⟨#[100, 101, 98, 117, 103]⟩, [⟨#[98, 115, 115]⟩]),
   (5, ⟨#[115, 101, 114, 118, 105, 99, 101, 45, 114, 101, 113, 117, 101, 115, 116]⟩, [⟨#[115]⟩]),
   (6, ⟨#[115, 101, 114, 118, 105, 99, 101, 45, 97, 99, 99, 101, 112, 116]⟩, [⟨#[115]⟩]),
   (7, ⟨#[101, 120, 116, 45, 105, 110, 102, 111]⟩, [⟨#[101]⟩]),
   (20, ⟨#[107, 101, 120, 105, 110, 105, 116]⟩, [⟨#[99, 110, 110, 110, 110, 110, 110, 110, 110, 110, 110, 98, 117]⟩]),
   (21, ⟨#[110, 101, 119, 107, 101, 121, 115]⟩, [⟨#[]⟩]),
   (30, ⟨#[101, 99, 100, 104, 45, 105, 110, 105, 116]⟩, [⟨#[116]⟩]),
   (31, ⟨#[114, 101, 112, 108, 121, 45, 111, 114, 45, 103, 114, 111, 117, 112]⟩, [⟨#[116, 116, 116]⟩, ⟨#[109, 109]⟩]),
   (32, ⟨#[103, 101, 120, 45, 105, 110, 105, 116]⟩, [⟨#[116]⟩]),
   (33, ⟨#[103, 101, 120, 45, 114, 101, 112, 108, 121]⟩, [⟨#[116, 116, 116]⟩]),
   (34, ⟨#[103, 101, 120, 45, 114, 101, 113, 117, 101, 115, 116]⟩, [⟨#[117, 117, 117]⟩]),
   (50, ⟨#[117, 115, 101, 114, 97, 117, 116, 104, 45, 114, 101, 113, 117, 101, 115, 116]⟩, [⟨#[115, 115, 115]⟩, ⟨#[115, 115, 115, 98, 115, 116]⟩, ⟨#[115, 115, 115, 98, 115, 116, 116]⟩]),
   (51, ⟨#[117, 115, 101, 114, 97, 117, 116, 104, 45, 102, 97, 105, 108, 117, 114, 101]⟩, [⟨#[110, 98]⟩]),
   (52, ⟨#[117, 115, 101, 114, 97, 117, 116, 104, 45, 115, 117, 99, 99, 101, 115, 115]⟩, [⟨#[]⟩]),
   (53, ⟨#[117, 115, 101, 114, 97, 117, 116, 104, 45, 98, 97, 110, 110, 101, 114]⟩, [⟨#[115, 115]⟩]),
   (60, ⟨#[117, 115, 101, 114, 97, 117, 116, 104, 45, 112, 107, 45, 111, 107]⟩, [⟨#[115, 116]⟩])]
/-- The row of a number, if it has one. -/
def rowP (n : Int) : Option (Int × ByteArray × List ByteArray) := tableP.find? (fun r => n == r.1)
/-- The formats of a number. -/
def formsP (n : Int) : List ByteArray := ((rowP n).map (·.2.2)).getD []
theorem formsP_mem (n : Int) : formsP n = [] ∨ ∃ r ∈ tableP, formsP n = r.2.2 := by
  unfold formsP
  cases h : rowP n with
  | none => exact .inl rfl
  | some r => exact .inr ⟨r, List.mem_of_find?_eq_some h, rfl⟩

theorem TextsAt.new1 (w : World) (t : TypeId) (a : ByteArray) : TextsAt (w.alloc (.cells #[.string a] t)) (.slice (some ⟨w.heap.size, 0, none⟩) 1 1) [a] :=
  ⟨_, 1, rfl, fun _ => ⟨_, _, rfl, by simp, fun k x hk => by
    rw [(Holds.new w t #[.string a]).cell (0 + k)]
    match k, hk with
    | 0, hk => simpa using hk⟩⟩
theorem TextsAt.new2 (w : World) (t : TypeId) (a b : ByteArray) : TextsAt (w.alloc (.cells #[.string a, .string b] t)) (.slice (some ⟨w.heap.size, 0, none⟩) 2 2) [a, b] :=
  ⟨_, 2, rfl, fun _ => ⟨_, _, rfl, by simp, fun k x hk => by
    rw [(Holds.new w t #[.string a, .string b]).cell (0 + k)]
    match k, hk with
    | 0, hk => simpa using hk
    | 1, hk => simpa using hk⟩⟩
theorem TextsAt.new3 (w : World) (t : TypeId) (a b c : ByteArray) : TextsAt (w.alloc (.cells #[.string a, .string b, .string c] t)) (.slice (some ⟨w.heap.size, 0, none⟩) 3 3) [a, b, c] :=
  ⟨_, 3, rfl, fun _ => ⟨_, _, rfl, by simp, fun k x hk => by
    rw [(Holds.new w t #[.string a, .string b, .string c]).cell (0 + k)]
    match k, hk with
    | 0, hk => simpa using hk
    | 1, hk => simpa using hk
    | 2, hk => simpa using hk⟩⟩

set_option maxRecDepth 100000 in
set_option maxHeartbeats 4000000 in
theorem forms_any (w : World) (n : Int) : Calls Tryz.prog 82 #[.int .i64 n] w fun e w' => ∃ v, e = .returned v ∧ TextsAt w' v (formsP n) ∧ Below w.heap.size w w' := by
  by_cases h1 : n = 1
  · subst h1
    go_enter Tryz.func82, Tryz.ntmps82
    go_wp2_with fail
    go_ret
    exact ⟨_, rfl, TextsAt.new1 _ _ _, (Below.refl _ _).alloc (Nat.le_refl _) _⟩
  have q1 : (n == (1 : Int)) = false := by simpa using h1
  by_cases h2 : n = 2
  · subst h2
    go_enter Tryz.func82, Tryz.ntmps82
    go_wp2_with fail
    go_ret
    exact ⟨_, rfl, TextsAt.new1 _ _ _, (Below.refl _ _).alloc (Nat.le_refl _) _⟩
  have q2 : (n == (2 : Int)) = false := by simpa using h2
  by_cases h5 : n = 5
  · subst h5
    go_enter Tryz.func82, Tryz.ntmps82
    go_wp2_with fail
    go_ret
    exact ⟨_, rfl, TextsAt.new1 _ _ _, (Below.refl _ _).alloc (Nat.le_refl _) _⟩
  have q5 : (n == (5 : Int)) = false := by simpa using h5
  by_cases h6 : n = 6
  · subst h6
    go_enter Tryz.func82, Tryz.ntmps82
    go_wp2_with fail
    go_ret
    exact ⟨_, rfl, TextsAt.new1 _ _ _, (Below.refl _ _).alloc (Nat.le_refl _) _⟩
  have q6 : (n == (6 : Int)) = false := by simpa using h6
  by_cases h3 : n = 3
  · subst h3
    go_enter Tryz.func82, Tryz.ntmps82
    go_wp2_with fail
    go_ret
    exact ⟨_, rfl, TextsAt.new1 _ _ _, (Below.refl _ _).alloc (Nat.le_refl _) _⟩
  have q3 : (n == (3 : Int)) = false := by simpa using h3
  by_cases h4 : n = 4
  · subst h4
    go_enter Tryz.func82, Tryz.ntmps82
    go_wp2_with fail
    go_ret
    exact ⟨_, rfl, TextsAt.new1 _ _ _, (Below.refl _ _).alloc (Nat.le_refl _) _⟩
  have q4 : (n == (4 : Int)) = false := by simpa using h4
  by_cases h7 : n = 7
  · subst h7
    go_enter Tryz.func82, Tryz.ntmps82
    go_wp2_with fail
    go_ret
    exact ⟨_, rfl, TextsAt.new1 _ _ _, (Below.refl _ _).alloc (Nat.le_refl _) _⟩
  have q7 : (n == (7 : Int)) = false := by simpa using h7
  by_cases h20 : n = 20
  · subst h20
    go_enter Tryz.func82, Tryz.ntmps82
    go_wp2_with fail
    go_ret
    exact ⟨_, rfl, TextsAt.new1 _ _ _, (Below.refl _ _).alloc (Nat.le_refl _) _⟩
  have q20 : (n == (20 : Int)) = false := by simpa using h20
  by_cases h21 : n = 21
  · subst h21
    go_enter Tryz.func82, Tryz.ntmps82
    go_wp2_with fail
    go_ret
    exact ⟨_, rfl, TextsAt.new1 _ _ _, (Below.refl _ _).alloc (Nat.le_refl _) _⟩
  have q21 : (n == (21 : Int)) = false := by simpa using h21
  by_cases h52 : n = 52
  · subst h52
    go_enter Tryz.func82, Tryz.ntmps82
    go_wp2_with fail
    go_ret
    exact ⟨_, rfl, TextsAt.new1 _ _ _, (Below.refl _ _).alloc (Nat.le_refl _) _⟩
  have q52 : (n == (52 : Int)) = false := by simpa using h52
  by_cases h30 : n = 30
  · subst h30
    go_enter Tryz.func82, Tryz.ntmps82
    go_wp2_with fail
    go_ret
    exact ⟨_, rfl, TextsAt.new1 _ _ _, (Below.refl _ _).alloc (Nat.le_refl _) _⟩
  have q30 : (n == (30 : Int)) = false := by simpa using h30
  by_cases h32 : n = 32
  · subst h32
    go_enter Tryz.func82, Tryz.ntmps82
    go_wp2_with fail
    go_ret
    exact ⟨_, rfl, TextsAt.new1 _ _ _, (Below.refl _ _).alloc (Nat.le_refl _) _⟩
  have q32 : (n == (32 : Int)) = false := by simpa using h32
  by_cases h31 : n = 31
  · subst h31
    go_enter Tryz.func82, Tryz.ntmps82
    go_wp2_with fail
    go_ret
    exact ⟨_, rfl, TextsAt.new2 _ _ _ _, (Below.refl _ _).alloc (Nat.le_refl _) _⟩
  have q31 : (n == (31 : Int)) = false := by simpa using h31
  by_cases h33 : n = 33
  · subst h33
    go_enter Tryz.func82, Tryz.ntmps82
    go_wp2_with fail
    go_ret
    exact ⟨_, rfl, TextsAt.new1 _ _ _, (Below.refl _ _).alloc (Nat.le_refl _) _⟩
  have q33 : (n == (33 : Int)) = false := by simpa using h33
  by_cases h34 : n = 34
  · subst h34
    go_enter Tryz.func82, Tryz.ntmps82
    go_wp2_with fail
    go_ret
    exact ⟨_, rfl, TextsAt.new1 _ _ _, (Below.refl _ _).alloc (Nat.le_refl _) _⟩
  have q34 : (n == (34 : Int)) = false := by simpa using h34
  by_cases h50 : n = 50
  · subst h50
    go_enter Tryz.func82, Tryz.ntmps82
    go_wp2_with fail
    go_ret
    exact ⟨_, rfl, TextsAt.new3 _ _ _ _ _, (Below.refl _ _).alloc (Nat.le_refl _) _⟩
  have q50 : (n == (50 : Int)) = false := by simpa using h50
  by_cases h51 : n = 51
  · subst h51
    go_enter Tryz.func82, Tryz.ntmps82
    go_wp2_with fail
    go_ret
    exact ⟨_, rfl, TextsAt.new1 _ _ _, (Below.refl _ _).alloc (Nat.le_refl _) _⟩
  have q51 : (n == (51 : Int)) = false := by simpa using h51
  by_cases h53 : n = 53
  · subst h53
    go_enter Tryz.func82, Tryz.ntmps82
    go_wp2_with fail
    go_ret
    exact ⟨_, rfl, TextsAt.new1 _ _ _, (Below.refl _ _).alloc (Nat.le_refl _) _⟩
  have q53 : (n == (53 : Int)) = false := by simpa using h53
  by_cases h60 : n = 60
  · subst h60
    go_enter Tryz.func82, Tryz.ntmps82
    go_wp2_with fail
    go_ret
    exact ⟨_, rfl, TextsAt.new1 _ _ _, (Below.refl _ _).alloc (Nat.le_refl _) _⟩
  have q60 : (n == (60 : Int)) = false := by simpa using h60
  have hz : formsP n = [] := by
    have : rowP n = none := List.find?_eq_none.2 (by simp [tableP, h1, h2, h5, h6, h3, h4, h7, h20, h21, h52, h30, h32, h31, h33, h34, h50, h51, h53, h60])
    unfold formsP
    rw [this]
    rfl
  rw [hz]
  clear hz h1 h2 h5 h6 h3 h4 h7 h20 h21 h52 h30 h32 h31 h33 h34 h50 h51 h53 h60
  go_enter Tryz.func82, Tryz.ntmps82
  go_wp2_with fail
  go_ret
  exact ⟨_, rfl, TextsAt.nil _, Below.refl _ _⟩
end Go.Proofs.YtlalkpgipenkaaaGreatDoor

namespace Go.Proofs.YtlalkpgipenkaaaGreatDoor
open Go.RowKit

/-- The first of the texts that has so many letters. -/
def fitP (l : List ByteArray) (m : Int) : ByteArray × Bool := match l.find? (fun x => (x.size : Int) == m) with | some x => (x, true) | none => (⟨#[]⟩, false)
theorem fitP_hit {l : List ByteArray} {m : Int} {k : Nat} (hk : k < l.length) (hn : ∀ x ∈ l.take k, ((x.size : Int) == m) = false) (hm : ((l[k].size : Int) == m) = true) : fitP l m = (l[k], true) := by
  have : l.find? (fun x => (x.size : Int) == m) = some l[k] := by
    rw [List.find?_eq_some_iff_append]
    exact ⟨hm, l.take k, l.drop (k + 1), by simp, fun x hx => by rw [hn x hx]; rfl⟩
  rw [fitP, this]
theorem fitP_none {l : List ByteArray} {m : Int} (hn : ∀ x ∈ l, ((x.size : Int) == m) = false) : fitP l m = (⟨#[]⟩, false) := by
  have : l.find? (fun x => (x.size : Int) == m) = none := by
    rw [List.find?_eq_none]
    intro x hx
    rw [hn x hx]; decide
  rw [fitP, this]
theorem take_all {α : Type} {p : α → Prop} {l : List α} {k : Nat} (hlt : k < l.length) (hn : ∀ x ∈ l.take k, p x) (hm : p l[k]) : ∀ x ∈ l.take (k + 1), p x := by
  intro x hx
  rw [List.take_succ_eq_append_getElem hlt, List.mem_append] at hx
  rcases hx with hx | hx
  · exact hn x hx
  · simp at hx
    rw [hx]; exact hm
theorem formsP_len (n : Int) : (formsP n).length ≤ 3 := by
  have h : ∀ r ∈ tableP, r.2.2.length ≤ 3 := by decide
  rcases formsP_mem n with e | ⟨r, hr, e⟩
  · rw [e]; simp
  · rw [e]; exact h r hr

set_option maxRecDepth 100000 in
theorem fit_any (w : World) (n m : Int) : Calls Tryz.prog 32 #[.int .i64 n, .int .i64 m] w fun e w' => e = .returned (.tuple #[.string (fitP (formsP n) m).1, .bool (fitP (formsP n) m).2]) ∧ Below w.heap.size w w' := by
  have hln := formsP_len n
  have hF : Calls Tryz.prog 82 #[.int .i64 n] w fun e w' => ∃ ao cap, e = .returned (.slice ao (formsP n).length cap) ∧ (formsP n ≠ [] → ∃ b off, ao = some ⟨b, off, none⟩ ∧ b < w'.heap.size ∧ ∀ k x, (formsP n)[k]? = some x → w'.cell? ⟨b, off + k, none⟩ = some (.string x)) ∧ Below w.heap.size w w' :=
    (forms_any w n).mono fun e w' ⟨v, he, ⟨ao, cap, hv, hc⟩, hb⟩ => ⟨ao, cap, by rw [he, hv], hc, hb⟩
  generalize formsP n = l at *
  go_enter Tryz.func32, Tryz.ntmps32
  go_wp2_with (go_at_call 82; with_reducible refine hF.mono ?_; rintro e w1 ⟨ao, cap, rfl, hc, hbel⟩)
  go_loopw [11] (fun i wr => ∃ k : Nat, k ≤ l.length ∧ i = .int .i64 k ∧ (∀ x ∈ l.take k, ((x.size : Int) == m) = false) ∧ wr = w1) (fun i _ => l.length - (intOf i).toNat)
  case atStart => exact ⟨0, Nat.zero_le _, rfl, by simp, rfl⟩
  case round =>
    obtain ⟨k, hk, rfl, htk, rfl⟩ := hrel
    by_cases hlt : k < l.length
    · obtain ⟨b, off, rfl, hb, hcell⟩ := hc (by intro h; simp [h] at hlt)
      obtain ⟨y, hy⟩ : ∃ y, y = l[k] := ⟨_, rfl⟩
      have c1 : wr.cell? ⟨b, off + k, none⟩ = some (.string y) := hcell k y (by simp [hlt, hy])
      have HN : Hid (((y.size : Int) == m) = false → ∀ x ∈ l.take (k + 1), ((x.size : Int) == m) = false) := fun e => take_all hlt htk (by rw [← hy]; exact e)
      have HT : Hid (((y.size : Int) == m) = true → fitP l m = (y, true)) := fun e => by
        show fitP l m = _
        rw [hy]; exact fitP_hit hlt htk (by rw [← hy]; exact e)
      clear hc hcell htk hy
      cases hm : ((y.size : Int) == m) with
      | true =>
        go_wp2_with fail
        go_ret2
        exact ⟨by rw [HT.out hm]; rfl, hbel⟩
      | false =>
        go_wp2_with fail
        go_roundw
        case rel => exact ⟨k + 1, by omega, by go_num, HN.out hm, trivial⟩
        case measure => simp [intOf]; omega
    · have hkl : k = l.length := by omega
      subst hkl
      rw [List.take_length] at htk
      have HE := Lib.hid (fitP_none htk)
      clear htk hlt hc
      go_wp2_with fail
      go_ret2
      exact ⟨by rw [HE.out]; rfl, hbel⟩

end Go.Proofs.YtlalkpgipenkaaaGreatDoor

namespace Go.Proofs.YtlalkpgipenkaaaGreatDoor
open Go.RowKit Go.WideShapes Go.ChangeShapes

/-- The numbers and words of the table, as they lie in memory. -/
def wordCells (l : List (Int × ByteArray × List ByteArray)) : List Value := l.flatMap fun r => [.int .i64 r.1, .string r.2.1]
theorem wordCells_at : ∀ (l : List (Int × ByteArray × List ByteArray)) (i : Nat) (r : Int × ByteArray × List ByteArray), l[i]? = some r → (wordCells l)[2 * i]? = some (.int .i64 r.1) ∧ (wordCells l)[2 * i + 1]? = some (.string r.2.1)
  | [], i, r, h => by simp at h
  | x :: l, 0, r, h => by
    simp at h
    subst h
    exact ⟨rfl, rfl⟩
  | x :: l, i + 1, r, h => by
    have ih := wordCells_at l i r (by simpa using h)
    have e : wordCells (x :: l) = .int .i64 x.1 :: .string x.2.1 :: wordCells l := rfl
    rw [e, show 2 * (i + 1) = 2 * i + 1 + 1 by omega]
    simpa using ih
theorem wordCells_len (l : List (Int × ByteArray × List ByteArray)) : (wordCells l).length = 2 * l.length := by
  induction l with
  | nil => rfl
  | cons x l ih =>
    have e : wordCells (x :: l) = .int .i64 x.1 :: .string x.2.1 :: wordCells l := rfl
    rw [e]; simp [ih]; omega
/-- The first variable holds the table. -/
def TabAt (w : World) : Prop := ∃ tt fr, w.heap[0]? = some (.cells (wordCells tableP).toArray tt fr)
theorem TabAt.lt {w : World} (h : TabAt w) : 0 < w.heap.size := by
  obtain ⟨_, _, h⟩ := h
  exact (Array.getElem?_eq_some_iff.1 h).1
theorem TabAt.below {w w' : World} (h : TabAt w) (hb : Below w.heap.size w w') : TabAt w' := by
  have hl := h.lt
  obtain ⟨tt, fr, h⟩ := h
  exact ⟨tt, fr, (hb.block 0 hl).trans h⟩
def wordsData {H : Type} (l : List (Int × ByteArray × List ByteArray)) : DataW H := .agg (l.map fun r => .agg [.lit (.int .i64 r.1), .lit (.string r.2.1.data.toList)])
theorem wordsData_is : (Rows.laid_shibboleth_schema_words : DataW Unit) = wordsData tableP := by kernel_rfl
set_option maxRecDepth 100000 in
theorem cellsRow : Tryz.prog.cellsOf 172 = 2 := by kernel_rfl
set_option maxRecDepth 100000 in
theorem cellsTab : Tryz.prog.cellsOf 173 = 38 := by kernel_rfl
set_option maxRecDepth 100000 in
theorem cellsI : Tryz.prog.cellsOf 3 = 1 := by kernel_rfl
set_option maxRecDepth 100000 in
theorem cellsS : Tryz.prog.cellsOf 9 = 1 := by kernel_rfl

theorem cells_of_words {enc : TypeId × Value → Unit} {W : World} {base : Nat} {sp : Nat → Bool} {held : Bool} {fuel : Nat} {cs : List Value} {l : List (Int × ByteArray × List ByteArray)} {p : List MemPlace}
    (h : DataW.trod enc Tryz.prog W base sp held fuel 173 cs = some (wordsData l, p)) : cs = wordCells l := by
  obtain ⟨xs, m, _, hx, hlen, hxl, hxs⟩ := DataW.trod_array Tryz.underlying173 h
  rw [cellsTab] at hlen
  rw [cellsRow] at hxs
  have hd : (xs.map (·.1)) = l.map fun r => (.agg [.lit (.int .i64 r.1), .lit (.string r.2.1.data.toList)] : DataW Unit) := by
    have := congrArg Prod.fst hx
    simpa [wordsData] using this.symm
  have hll : l.length = 19 := by
    have := congrArg List.length hd
    simp at this
    omega
  have each : ∀ i r, l[i]? = some r → cs[2 * i]? = some (.int .i64 r.1) ∧ cs[2 * i + 1]? = some (.string r.2.1) := by
    intro i r hr
    have hi : i < 19 := by rw [← hll]; exact (List.getElem?_eq_some_iff.1 hr).1
    have ht := hxs i hi
    have hxi : xs[i]? = some (xs[i]'(by omega)) := List.getElem?_eq_getElem (by omega)
    rw [hxi] at ht
    obtain ⟨y0, y1, n, e, _, t0, t1⟩ := trod_struct2 Tryz.underlying172 ht
    have he : (xs[i]'(by omega)).1 = .agg [.lit (.int .i64 r.1), .lit (.string r.2.1.data.toList)] := by
      have := congrArg (·[i]?) hd
      simp only [List.getElem?_map, hxi, hr, Option.map_some, Option.some.injEq] at this
      exact this
    rw [e] at he
    simp only [cellsI, cellsS] at t0 t1
    obtain ⟨z0, c0, rfl, _⟩ := DataW.trod_int Tryz.underlying3 t0
    obtain ⟨z1, c1, rfl, _⟩ := DataW.trod_string Tryz.underlying9 t1
    simp only [DataW.agg.injEq, List.cons.injEq, DataW.lit.injEq, Lit.int.injEq, true_and, and_true, Lit.string.injEq] at he
    obtain ⟨h0, h1⟩ := he
    have hz1 : z1 = r.2.1 := by
      cases z1 with
      | mk a =>
        cases hb : r.2.1 with
        | mk b =>
          rw [hb] at h1
          simp at h1
          rw [h1]
    have e0 := congrArg (·[0]?) c0
    have e1 := congrArg (·[0]?) c1
    simp [List.getElem?_drop] at e0 e1
    rw [Nat.mul_comm 2 i]
    exact ⟨by rw [e0, h0], by rw [e1, hz1]⟩
  apply List.ext_getElem?
  intro j
  by_cases hj : j < 38
  · obtain ⟨r, hr⟩ : ∃ r, l[j / 2]? = some r := ⟨_, List.getElem?_eq_getElem (by omega)⟩
    have a := each _ r hr
    have b := wordCells_at l _ r hr
    rcases Nat.mod_two_eq_zero_or_one j with h2 | h2
    · rw [show j = 2 * (j / 2) by omega, a.1, b.1]
    · rw [show j = 2 * (j / 2) + 1 by omega, a.2, b.2]
  · rw [List.getElem?_eq_none (by omega), List.getElem?_eq_none (by rw [wordCells_len]; omega)]

theorem tabAt_of_laid {W : World} {rest : List (String × DataW Unit)} (h : laidMet Tryz.prog (("shibboleth/schema.words", Rows.laid_shibboleth_schema_words) :: rest) W) : TabAt W := by
  obtain ⟨ps, ⟨g, t, cs, fuel, p, q, hg, ht, hvar, hd, _, _⟩, _⟩ := h
  obtain rfl := Option.some.inj ((show Tryz.prog.globalNamed "shibboleth/schema.words" = some 0 by kernel_rfl).symm.trans hg)
  obtain rfl := Option.some.inj ((show (Tryz.prog.globals[0]?).map (·.type) = some 173 by kernel_rfl).symm.trans ht)
  rw [wordsData_is] at hd
  have hc := cells_of_words hd
  have hcs : cs = (wordCells tableP).toArray := by rw [← hc]
  subst hcs
  simp only [World.var?, hg, Option.bind_some] at hvar
  split at hvar
  · rename_i c tt fr hb
    have : c = (wordCells tableP).toArray := Option.some.inj hvar
    subst this
    exact ⟨tt, fr, hb⟩
  · cases hvar
end Go.Proofs.YtlalkpgipenkaaaGreatDoor

namespace Go.Proofs.YtlalkpgipenkaaaGreatDoor
open Go.RowKit

def wordP (n : Int) : ByteArray := ((rowP n).map (·.2.1)).getD ⟨#[]⟩
set_option maxRecDepth 100000 in
theorem index_words : ∀ (k : Nat) (r : Int × ByteArray × List ByteArray), tableP[k]? = some r → ∀ W : World, (Instr.index 173 (.agg (wordCells tableP).toArray) (.int .i64 (k : Int))).run Tryz.prog W = .ok (.agg #[.int .i64 r.1, .string r.2.1]) W
  | 0, r, h => by
    have : r = tableP[0]'(by decide) := (Option.some.inj h).symm
    subst this
    exact fun _ => by kernel_rfl
  | 1, r, h => by
    have : r = tableP[1]'(by decide) := (Option.some.inj h).symm
    subst this
    exact fun _ => by kernel_rfl
  | 2, r, h => by
    have : r = tableP[2]'(by decide) := (Option.some.inj h).symm
    subst this
    exact fun _ => by kernel_rfl
  | 3, r, h => by
    have : r = tableP[3]'(by decide) := (Option.some.inj h).symm
    subst this
    exact fun _ => by kernel_rfl
  | 4, r, h => by
    have : r = tableP[4]'(by decide) := (Option.some.inj h).symm
    subst this
    exact fun _ => by kernel_rfl
  | 5, r, h => by
    have : r = tableP[5]'(by decide) := (Option.some.inj h).symm
    subst this
    exact fun _ => by kernel_rfl
  | 6, r, h => by
    have : r = tableP[6]'(by decide) := (Option.some.inj h).symm
    subst this
    exact fun _ => by kernel_rfl
  | 7, r, h => by
    have : r = tableP[7]'(by decide) := (Option.some.inj h).symm
    subst this
    exact fun _ => by kernel_rfl
  | 8, r, h => by
    have : r = tableP[8]'(by decide) := (Option.some.inj h).symm
    subst this
    exact fun _ => by kernel_rfl
  | 9, r, h => by
    have : r = tableP[9]'(by decide) := (Option.some.inj h).symm
    subst this
    exact fun _ => by kernel_rfl
  | 10, r, h => by
    have : r = tableP[10]'(by decide) := (Option.some.inj h).symm
    subst this
    exact fun _ => by kernel_rfl
  | 11, r, h => by
    have : r = tableP[11]'(by decide) := (Option.some.inj h).symm
    subst this
    exact fun _ => by kernel_rfl
  | 12, r, h => by
    have : r = tableP[12]'(by decide) := (Option.some.inj h).symm
    subst this
    exact fun _ => by kernel_rfl
  | 13, r, h => by
    have : r = tableP[13]'(by decide) := (Option.some.inj h).symm
    subst this
    exact fun _ => by kernel_rfl
  | 14, r, h => by
    have : r = tableP[14]'(by decide) := (Option.some.inj h).symm
    subst this
    exact fun _ => by kernel_rfl
  | 15, r, h => by
    have : r = tableP[15]'(by decide) := (Option.some.inj h).symm
    subst this
    exact fun _ => by kernel_rfl
  | 16, r, h => by
    have : r = tableP[16]'(by decide) := (Option.some.inj h).symm
    subst this
    exact fun _ => by kernel_rfl
  | 17, r, h => by
    have : r = tableP[17]'(by decide) := (Option.some.inj h).symm
    subst this
    exact fun _ => by kernel_rfl
  | 18, r, h => by
    have : r = tableP[18]'(by decide) := (Option.some.inj h).symm
    subst this
    exact fun _ => by kernel_rfl
  | k + 19, r, h => by simp [tableP] at h
theorem tab_size : (Tryz.prog.info? 173).map (·.size) = some (wordCells tableP).toArray.size := by kernel_rfl
theorem rowP_hit {n : Int} {k : Nat} (hk : k < tableP.length) (hn : ∀ x ∈ tableP.take k, (x.1 == n) = false) (hm : (tableP[k].1 == n) = true) : rowP n = some tableP[k] := by
  unfold rowP
  rw [List.find?_eq_some_iff_append]
  refine ⟨by rw [beq_iff_eq] at hm ⊢; exact hm.symm, tableP.take k, tableP.drop (k + 1), by simp, fun x hx => ?_⟩
  have := hn x hx
  rw [beq_eq_false_iff_ne] at this
  simpa using Ne.symm this
theorem rowP_none {n : Int} (hn : ∀ x ∈ tableP, (x.1 == n) = false) : rowP n = none := by
  unfold rowP
  rw [List.find?_eq_none]
  intro x hx
  have := hn x hx
  rw [beq_eq_false_iff_ne] at this
  simpa using Ne.symm this

set_option maxRecDepth 100000 in
theorem word_any {w : World} (h : TabAt w) (n : Int) : Calls Tryz.prog 85 #[.int .i64 n] w fun e w' => e = .returned (.string (wordP n)) ∧ Below w.heap.size w w' := by
  obtain ⟨tt, fr, hg⟩ := h
  have hsz := tab_size
  have HI := Lib.hid index_words
  have HH : Hid (∀ (k : Nat) (hk : k < tableP.length), (∀ x ∈ tableP.take k, (x.1 == n) = false) → (tableP[k].1 == n) = true → rowP n = some tableP[k]) := fun k hk => rowP_hit hk
  have HE := Lib.hid (@rowP_none n)
  have hlen : tableP.length = 19 := rfl
  unfold wordP
  generalize (wordCells tableP).toArray = CS at *
  generalize tableP = l at *
  go_enter Tryz.func85, Tryz.ntmps85
  go_wp2_with (refine wpList_load_row rfl 173 _ rfl 0 rfl tt _ fr _ hg Tryz.underlying173 rfl hsz ?_)
  go_loopw [6] (fun i wr => ∃ k : Nat, k ≤ 19 ∧ i = .int .i64 k ∧ (∀ x ∈ l.take k, (x.1 == n) = false) ∧ Below w.heap.size w wr) (fun i _ => 19 - (intOf i).toNat)
  case atStart => exact ⟨0, Nat.zero_le _, rfl, by simp, Below.refl _ _⟩
  case round =>
    obtain ⟨k, hk, rfl, htk, hbel⟩ := hrel
    by_cases hlt : k < 19
    · have hkl : k < l.length := by omega
      obtain ⟨x, hx⟩ : ∃ x, x = l[k] := ⟨_, rfl⟩
      have hi := HI.out k x (by rw [hx]; exact List.getElem?_eq_getElem hkl)
      have HN : Hid ((x.1 == n) = false → ∀ y ∈ l.take (k + 1), (y.1 == n) = false) := fun e => take_all hkl htk (by rw [← hx]; exact e)
      have HT : Hid ((x.1 == n) = true → rowP n = some x) := fun e => by
        show _ = _
        rw [hx]; exact HH.out k hkl htk (by rw [← hx]; exact e)
      obtain ⟨xn, xs, xf⟩ := x
      clear hx htk
      simp only at hi
      have HB := Lib.hid hbel
      clear hbel
      cases hm : (xn == n) with
      | true =>
        go_wp2_with fail
        go_ret
        exact ⟨by rw [HT.out hm]; rfl, HB.out.alloc HB.out.size _⟩
      | false =>
        go_wp2_with fail
        go_roundw
        case rel => exact ⟨k + 1, by omega, by go_num, HN.out hm, HB.out.alloc HB.out.size _⟩
        case measure => simp [intOf]; omega
    · have hkl : k = 19 := by omega
      subst hkl
      have HX : Hid (rowP n = none) := HE.out (by rwa [List.take_of_length_le (by omega)] at htk)
      clear htk hlt
      go_wp2_with fail
      go_ret
      exact ⟨by rw [HX.out]; rfl, hbel⟩

end Go.Proofs.YtlalkpgipenkaaaGreatDoor
