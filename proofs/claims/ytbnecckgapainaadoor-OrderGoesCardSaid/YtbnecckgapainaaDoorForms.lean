/- Formats of messages: the table of the document; Forms and its contract. -/
import Derived.Test.YtbnecckgapainaaDoorTexts
namespace Go.Proofs.YtbnecckgapainaaDoor
open Go.RowKit

/-- The rows of the document's table: number, word, formats. -/
def tableP : List (Int × ByteArray × List ByteArray) :=
  [(1, ⟨#[100, 105, 115, 99, 111, 110, 110, 101, 99, 116]⟩, [⟨#[117, 115, 115]⟩]),
   (2, ⟨#[105, 103, 110, 111, 114, 101]⟩, [⟨#[115]⟩]),
   (3, ⟨#[117, 110, 105, 109, 112, 108, 101, 109, 101, 110, 116, 101, 100]⟩, [⟨#[117]⟩]),
   (4, ⟨#[100, 101, 98, 117, 103]⟩, [⟨#[98, 115, 115]⟩]),
   (5, ⟨#[115, 101, 114, 118, 105, 99, 101, 45, 114, 101, 113, 117, 101, 115, 116]⟩, [⟨#[115]⟩]),
   (6, ⟨#[115, 101, 114, 118, 105, 99, 101, 45, 97, 99, 99, 101, 112, 116]⟩, [⟨#[115]⟩]),
   (7, ⟨#[101, 120, 116, 45, 105, 110, 102, 111]⟩, [⟨#[101]⟩]),
   (20, ⟨#[107, 101, 120, 105, 110, 105, 116]⟩, [⟨#[99, 110, 110, 110, 110, 110, 110, 110, 110, 110, 110, 98, 117]⟩]),
   (21, ⟨#[110, 101, 119, 107, 101, 121, 115]⟩, [⟨#[]⟩]),
   (30, ⟨#[101, 99, 100, 104, 45, 105, 110, 105, 116]⟩, [⟨#[116]⟩]),
   (31, ⟨#[114, 101, 112, 108, 121, 45, 111, 114, 45, 103, 114, 111, 117, 112]⟩, [⟨#[116, 116, 116]⟩, ⟨#[109, 109]⟩]),
   (32, ⟨#[103, 101, 120, 45, 105, 110, 105, 116]⟩, [⟨#[116]⟩]),
   (33, ⟨#[103, 101, 120, 45, 114, 101, 112, 108, 121]⟩, [⟨#[116, 116, 116]⟩]),
   (34, ⟨#[103, 101, 120, 45, 114, 101, 113, 117, 101, 115, 116]⟩, [⟨#[117, 117, 117]⟩]),
   (50, ⟨#[117, 115, 101, 114, 97, 117, 116, 104, 45, 114, 101, 113, 117, 101, 115, 116]⟩, [⟨#[115, 115, 115]⟩, ⟨#[115, 115, 115, 98, 115, 116]⟩, ⟨#[115, 115, 115, 98, 115, 116, 116]⟩]),
   (51, ⟨#[117, 115, 101, 114, 97, 117, 116, 104, 45, 102, 97, 105, 108, 117, 114, 101]⟩, [⟨#[110, 98]⟩]),
   (52, ⟨#[117, 115, 101, 114, 97, 117, 116, 104, 45, 115, 117, 99, 99, 101, 115, 115]⟩, [⟨#[]⟩]),
   (53, ⟨#[117, 115, 101, 114, 97, 117, 116, 104, 45, 98, 97, 110, 110, 101, 114]⟩, [⟨#[115, 115]⟩]),
   (60, ⟨#[117, 115, 101, 114, 97, 117, 116, 104, 45, 112, 107, 45, 111, 107]⟩, [⟨#[115, 116]⟩])]
/-- The row of a number, if it has one. -/
def rowP (n : Int) : Option (Int × ByteArray × List ByteArray) := tableP.find? (fun r => n == r.1)
/-- The formats of a number. -/
def formsP (n : Int) : List ByteArray := ((rowP n).map (·.2.2)).getD []
theorem formsP_mem (n : Int) : formsP n = [] ∨ ∃ r ∈ tableP, formsP n = r.2.2 := by
  unfold formsP
  cases h : rowP n with
  | none => exact .inl rfl
  | some r => exact .inr ⟨r, List.mem_of_find?_eq_some h, rfl⟩

theorem TextsAt.new1 (w : World) (t : TypeId) (a : ByteArray) : TextsAt (w.alloc (.cells #[.string a] t)) (.slice (some ⟨w.heap.size, 0, none⟩) 1 1) [a] :=
  ⟨_, 1, rfl, fun _ => ⟨_, _, rfl, by simp, fun k x hk => by
    rw [(Holds.new w t #[.string a]).cell (0 + k)]
    match k, hk with
    | 0, hk => simpa using hk⟩⟩
theorem TextsAt.new2 (w : World) (t : TypeId) (a b : ByteArray) : TextsAt (w.alloc (.cells #[.string a, .string b] t)) (.slice (some ⟨w.heap.size, 0, none⟩) 2 2) [a, b] :=
  ⟨_, 2, rfl, fun _ => ⟨_, _, rfl, by simp, fun k x hk => by
    rw [(Holds.new w t #[.string a, .string b]).cell (0 + k)]
    match k, hk with
    | 0, hk => simpa using hk
    | 1, hk => simpa using hk⟩⟩
theorem TextsAt.new3 (w : World) (t : TypeId) (a b c : ByteArray) : TextsAt (w.alloc (.cells #[.string a, .string b, .string c] t)) (.slice (some ⟨w.heap.size, 0, none⟩) 3 3) [a, b, c] :=
  ⟨_, 3, rfl, fun _ => ⟨_, _, rfl, by simp, fun k x hk => by
    rw [(Holds.new w t #[.string a, .string b, .string c]).cell (0 + k)]
    match k, hk with
    | 0, hk => simpa using hk
    | 1, hk => simpa using hk
    | 2, hk => simpa using hk⟩⟩

set_option maxRecDepth 100000 in
set_option maxHeartbeats 4000000 in
theorem forms_any (w : World) (n : Int) : Calls Tryd.prog 55 #[.int .i64 n] w fun e w' => ∃ v, e = .returned v ∧ TextsAt w' v (formsP n) ∧ Below w.heap.size w w' := by
  by_cases h1 : n = 1
  · subst h1
    go_enter Tryd.func55, Tryd.ntmps55
    go_wp2_with fail
    go_ret
    exact ⟨_, rfl, TextsAt.new1 _ _ _, (Below.refl _ _).alloc (Nat.le_refl _) _⟩
  have q1 : (n == (1 : Int)) = false := by simpa using h1
  by_cases h2 : n = 2
  · subst h2
    go_enter Tryd.func55, Tryd.ntmps55
    go_wp2_with fail
    go_ret
    exact ⟨_, rfl, TextsAt.new1 _ _ _, (Below.refl _ _).alloc (Nat.le_refl _) _⟩
  have q2 : (n == (2 : Int)) = false := by simpa using h2
  by_cases h5 : n = 5
  · subst h5
    go_enter Tryd.func55, Tryd.ntmps55
    go_wp2_with fail
    go_ret
    exact ⟨_, rfl, TextsAt.new1 _ _ _, (Below.refl _ _).alloc (Nat.le_refl _) _⟩
  have q5 : (n == (5 : Int)) = false := by simpa using h5
  by_cases h6 : n = 6
  · subst h6
    go_enter Tryd.func55, Tryd.ntmps55
    go_wp2_with fail
    go_ret
    exact ⟨_, rfl, TextsAt.new1 _ _ _, (Below.refl _ _).alloc (Nat.le_refl _) _⟩
  have q6 : (n == (6 : Int)) = false := by simpa using h6
  by_cases h3 : n = 3
  · subst h3
    go_enter Tryd.func55, Tryd.ntmps55
    go_wp2_with fail
    go_ret
    exact ⟨_, rfl, TextsAt.new1 _ _ _, (Below.refl _ _).alloc (Nat.le_refl _) _⟩
  have q3 : (n == (3 : Int)) = false := by simpa using h3
  by_cases h4 : n = 4
  · subst h4
    go_enter Tryd.func55, Tryd.ntmps55
    go_wp2_with fail
    go_ret
    exact ⟨_, rfl, TextsAt.new1 _ _ _, (Below.refl _ _).alloc (Nat.le_refl _) _⟩
  have q4 : (n == (4 : Int)) = false := by simpa using h4
  by_cases h7 : n = 7
  · subst h7
    go_enter Tryd.func55, Tryd.ntmps55
    go_wp2_with fail
    go_ret
    exact ⟨_, rfl, TextsAt.new1 _ _ _, (Below.refl _ _).alloc (Nat.le_refl _) _⟩
  have q7 : (n == (7 : Int)) = false := by simpa using h7
  by_cases h20 : n = 20
  · subst h20
    go_enter Tryd.func55, Tryd.ntmps55
    go_wp2_with fail
    go_ret
    exact ⟨_, rfl, TextsAt.new1 _ _ _, (Below.refl _ _).alloc (Nat.le_refl _) _⟩
  have q20 : (n == (20 : Int)) = false := by simpa using h20
  by_cases h21 : n = 21
  · subst h21
    go_enter Tryd.func55, Tryd.ntmps55
    go_wp2_with fail
    go_ret
    exact ⟨_, rfl, TextsAt.new1 _ _ _, (Below.refl _ _).alloc (Nat.le_refl _) _⟩
  have q21 : (n == (21 : Int)) = false := by simpa using h21
  by_cases h52 : n = 52
  · subst h52
    go_enter Tryd.func55, Tryd.ntmps55
    go_wp2_with fail
    go_ret
    exact ⟨_, rfl, TextsAt.new1 _ _ _, (Below.refl _ _).alloc (Nat.le_refl _) _⟩
  have q52 : (n == (52 : Int)) = false := by simpa using h52
  by_cases h30 : n = 30
  · subst h30
    go_enter Tryd.func55, Tryd.ntmps55
    go_wp2_with fail
    go_ret
    exact ⟨_, rfl, TextsAt.new1 _ _ _, (Below.refl _ _).alloc (Nat.le_refl _) _⟩
  have q30 : (n == (30 : Int)) = false := by simpa using h30
  by_cases h32 : n = 32
  · subst h32
    go_enter Tryd.func55, Tryd.ntmps55
    go_wp2_with fail
    go_ret
    exact ⟨_, rfl, TextsAt.new1 _ _ _, (Below.refl _ _).alloc (Nat.le_refl _) _⟩
  have q32 : (n == (32 : Int)) = false := by simpa using h32
  by_cases h31 : n = 31
  · subst h31
    go_enter Tryd.func55, Tryd.ntmps55
    go_wp2_with fail
    go_ret
    exact ⟨_, rfl, TextsAt.new2 _ _ _ _, (Below.refl _ _).alloc (Nat.le_refl _) _⟩
  have q31 : (n == (31 : Int)) = false := by simpa using h31
  by_cases h33 : n = 33
  · subst h33
    go_enter Tryd.func55, Tryd.ntmps55
    go_wp2_with fail
    go_ret
    exact ⟨_, rfl, TextsAt.new1 _ _ _, (Below.refl _ _).alloc (Nat.le_refl _) _⟩
  have q33 : (n == (33 : Int)) = false := by simpa using h33
  by_cases h34 : n = 34
  · subst h34
    go_enter Tryd.func55, Tryd.ntmps55
    go_wp2_with fail
    go_ret
    exact ⟨_, rfl, TextsAt.new1 _ _ _, (Below.refl _ _).alloc (Nat.le_refl _) _⟩
  have q34 : (n == (34 : Int)) = false := by simpa using h34
  by_cases h50 : n = 50
  · subst h50
    go_enter Tryd.func55, Tryd.ntmps55
    go_wp2_with fail
    go_ret
    exact ⟨_, rfl, TextsAt.new3 _ _ _ _ _, (Below.refl _ _).alloc (Nat.le_refl _) _⟩
  have q50 : (n == (50 : Int)) = false := by simpa using h50
  by_cases h51 : n = 51
  · subst h51
    go_enter Tryd.func55, Tryd.ntmps55
    go_wp2_with fail
    go_ret
    exact ⟨_, rfl, TextsAt.new1 _ _ _, (Below.refl _ _).alloc (Nat.le_refl _) _⟩
  have q51 : (n == (51 : Int)) = false := by simpa using h51
  by_cases h53 : n = 53
  · subst h53
    go_enter Tryd.func55, Tryd.ntmps55
    go_wp2_with fail
    go_ret
    exact ⟨_, rfl, TextsAt.new1 _ _ _, (Below.refl _ _).alloc (Nat.le_refl _) _⟩
  have q53 : (n == (53 : Int)) = false := by simpa using h53
  by_cases h60 : n = 60
  · subst h60
    go_enter Tryd.func55, Tryd.ntmps55
    go_wp2_with fail
    go_ret
    exact ⟨_, rfl, TextsAt.new1 _ _ _, (Below.refl _ _).alloc (Nat.le_refl _) _⟩
  have q60 : (n == (60 : Int)) = false := by simpa using h60
  have hz : formsP n = [] := by
    have : rowP n = none := List.find?_eq_none.2 (by simp [tableP, h1, h2, h5, h6, h3, h4, h7, h20, h21, h52, h30, h32, h31, h33, h34, h50, h51, h53, h60])
    unfold formsP
    rw [this]
    rfl
  rw [hz]
  clear hz h1 h2 h5 h6 h3 h4 h7 h20 h21 h52 h30 h32 h31 h33 h34 h50 h51 h53 h60
  go_enter Tryd.func55, Tryd.ntmps55
  go_wp2_with fail
  go_ret
  exact ⟨_, rfl, TextsAt.nil _, Below.refl _ _⟩
end Go.Proofs.YtbnecckgapainaaDoor
