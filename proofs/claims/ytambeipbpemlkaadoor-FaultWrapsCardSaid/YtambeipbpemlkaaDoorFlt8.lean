/- Error of a fault. -/
import Derived.Test.YtambeipbpemlkaaDoorFlt7
import Derived.Test.YtambeipbpemlkaaDoorShelf
import Derived.Lib.Join
namespace Go.Proofs.YtambeipbpemlkaaDoor
open Go.RowKit

def joinP (l : List ByteArray) : ByteArray := ⟨(Lib.join (l.map (·.data.toList)) [58, 32]).toArray⟩
theorem join_len (m : Nat) : ∀ xs : List (List UInt8), (∀ x ∈ xs, x.length ≤ m) → (Lib.join xs [58, 32]).length ≤ xs.length * (m + 2)
  | [], _ => by simp [Lib.join]
  | [x], h => by
    have := h x (by simp)
    simp [Lib.join]; omega
  | x :: y :: r, h => by
    have h1 := h x (by simp)
    have h2 := join_len m (y :: r) (fun z hz => h z (by simp [hz]))
    have e : Lib.join (x :: y :: r) [58, 32] = x ++ [58, 32] ++ Lib.join (y :: r) [58, 32] := by
      simp [Lib.join, List.intercalate_cons_cons]
    rw [e]
    have e2 : (x :: y :: r).length * (m + 2) = (m + 2) + (y :: r).length * (m + 2) := by rw [List.length_cons, Nat.add_mul]; omega
    simp only [List.length_append, List.length_cons, List.length_nil] at h2 ⊢
    rw [List.length_cons, List.length_cons] at e2
    omega
theorem join_row {w : World} {B : Nat} {s : Value} {l : List ByteArray} (h : w.ownsRow B 9 1 s l.length (strs l)) (hl : l.length ≤ 1001) (hs : ∀ x ∈ l, x.size ≤ 1000) :
    Calls Tryd.prog 41 #[s, .string ⟨#[58, 32]⟩] w fun r w' => r = .returned (.string (joinP l)) ∧ Below w.heap.size w w' := by
  have hown := h
  have hsz : ∀ x ∈ l.map (·.data.toList), x.length ≤ 1000 := fun x hx => by
    obtain ⟨y, hy, rfl⟩ := List.mem_map.1 hx
    have := hs y hy
    rw [Array.length_toList]
    exact this
  have hj := join_len 1000 _ hsz
  rcases h.2 with ⟨rfl, h0⟩ | ⟨g, cap, cur, rfl, _, hg, hcap, _, _, _⟩
  · have : l = [] := List.length_eq_zero_iff.1 h0
    subst this
    exact (Tryd.strings_Join_none none 0 ⟨#[58, 32]⟩ w).mono fun r w' ⟨h1, h2⟩ => ⟨h1, h2 ▸ Below.refl _ _⟩
  · have := Tryd.strings_Join g 0 cap l ⟨#[58, 32]⟩ w (fun j x hx => by
      have hjl := (List.getElem?_eq_some_iff.1 hx).1
      rw [Nat.zero_add, hown.cellAt j (by omega)]
      simp [strs, hx]) (Array.getElem?_eq_some_iff.1 hg).1 (by omega) hcap (by
        simp only [List.length_map] at hj
        have : l.length * (1000 + 2) ≤ 1001 * 1002 := Nat.mul_le_mul hl (Nat.le_refl _)
        show (Lib.join _ [58, 32]).length ≤ _
        omega)
    exact this

theorem nameP_len (e : Int) : (nameP e).size ≤ 10 := by
  have h : ∀ x ∈ namesP, x.size ≤ 10 := by decide
  unfold nameP
  split
  · rename_i he
    have hk : e.toNat < namesP.length := by show _ < 15; omega
    rw [List.getD_eq_getElem?_getD, List.getElem?_eq_getElem hk]
    exact h _ (List.getElem_mem hk)
  · decide
/-- What a fault tells. -/
def tellP (path : List ByteArray) (n : Option Int) : ByteArray := joinP (path ++ (match n with | none => [] | some e => [nameP e]))

theorem fError_nil (w : World) : Calls Tryd.prog 19 #[.pointer none] w fun r w' => r = .returned (.string ⟨#[]⟩) ∧ w' = w := by
  go_enter Tryd.func19, Tryd.ntmps19
  go_wp2_with fail
  go_ret
  exact ⟨rfl, rfl⟩

set_option maxHeartbeats 2000000 in
set_option maxRecDepth 100000 in
theorem fError_any {w : World} {b : Nat} {path : List ByteArray} {n : Option Int} (hg : TypeOfError w) (hv : ErrAt w (.iface 37 (.pointer (some ⟨b, 0, none⟩))) path n) (hl : path.length ≤ 1000) (hs : ∀ x ∈ path, x.size ≤ 1000) :
    Calls Tryd.prog 19 #[.pointer (some ⟨b, 0, none⟩)] w fun r w' => r = .returned (.string (tellP path n)) ∧ Below w.heap.size w w' := by
  obtain ⟨i0, hi, hz0, hz1, hz2⟩ := info_parts infoStr
  have HL0 := Lib.hid (locate_any hg hv hl)
  have HG : Hid (∀ W, Below w.heap.size w W → TypeOfError W) := fun W hb => hg.later hb
  have HS := Lib.hid hs
  clear hg hv hs
  cases n with
  | none =>
    have HL : Hid (Calls Tryd.prog 38 #[.iface 37 (.pointer (some ⟨b, 0, none⟩))] w fun r w' => ∃ s, r = .returned (.tuple #[s, .nilIface]) ∧ w'.ownsRow w.heap.size 9 1 s path.length (strs path) ∧ (path = [] → s = .slice none 0 0) ∧ Below w.heap.size w w') := HL0.out
    have HO : Hid (∀ W : World, Below w.heap.size w W → Calls Tryd.prog 39 #[.nilIface] W fun r w' => r = .returned (.tuple #[.pointer none, .bool false]) ∧ Below W.heap.size W w') := fun W hb => outer_any (HG.out W hb) (ErrAt.none (w := W))
    have HN : Hid (∀ W : World, Below w.heap.size w W → Calls Tryd.prog 34 #[.nilIface] W fun r w' => r = .returned (.tuple #[.int .i64 0, .bool false]) ∧ Below W.heap.size W w') := fun W hb => number_any (HG.out W hb) (ErrAt.none (w := W))
    have ht : Hid (tellP path none = joinP path) := by show _ = _; unfold tellP; rw [List.append_nil]
    rw [ht.out]
    clear HL0
    go_enter Tryd.func19, Tryd.ntmps19
    go_wp2_with (first
      | (go_at_call 38; with_reducible refine HL.out.mono ?_; rintro r w1 ⟨s, rfl, hrow, hnil, b1⟩)
      | (go_at_call 39; with_reducible refine (HO.out _ b1).mono ?_; rintro r w2 ⟨rfl, b2⟩; have b12 := b1.trans (b2.mono b1.size))
      | (go_at_call 34; with_reducible refine (HN.out _ b12).mono ?_; rintro r w3 ⟨rfl, b3⟩; have hr3 := own_later (own_later hrow b2) b3)
      | (go_at_call 41; with_reducible refine (join_row hr3 (by omega) HS.out).mono ?_; rintro r w4 ⟨rfl, b4⟩))
    go_ret
    have b13 := b12.trans (b3.mono b12.size)
    exact ⟨rfl, b13.trans (b4.mono b13.size)⟩
  | some e =>
    have HL : Hid (Calls Tryd.prog 38 #[.iface 37 (.pointer (some ⟨b, 0, none⟩))] w fun r w' => ∃ s, r = .returned (.tuple #[s, .iface 24 (.int .i64 e)]) ∧ w'.ownsRow w.heap.size 9 1 s path.length (strs path) ∧ (path = [] → s = .slice none 0 0) ∧ Below w.heap.size w w') := HL0.out
    have HO : Hid (∀ W : World, Below w.heap.size w W → Calls Tryd.prog 39 #[.iface 24 (.int .i64 e)] W fun r w' => r = .returned (.tuple #[.pointer none, .bool false]) ∧ Below W.heap.size W w') := fun W hb => outer_any (HG.out W hb) (ErrAt.num (w := W) e)
    have HN : Hid (∀ W : World, Below w.heap.size w W → Calls Tryd.prog 34 #[.iface 24 (.int .i64 e)] W fun r w' => r = .returned (.tuple #[.int .i64 e, .bool true]) ∧ Below W.heap.size W w') := fun W hb => number_any (HG.out W hb) (ErrAt.num (w := W) e)
    have HE := Lib.hid (eError_any e)
    have HNL := Lib.hid (nameP_len e)
    have ht : Hid (tellP path (some e) = joinP (path ++ [nameP e])) := rfl
    rw [ht.out]
    clear HL0 ht
    generalize nameP e = x at *
    go_enter Tryd.func19, Tryd.ntmps19
    go_wp2_with (first
      | (go_at_call 38; with_reducible refine HL.out.mono ?_; rintro r w1 ⟨s, rfl, hrow, hnil, b1⟩)
      | (go_at_call 39; with_reducible refine (HO.out _ b1).mono ?_; rintro r w2 ⟨rfl, b2⟩; have b12 := b1.trans (b2.mono b1.size))
      | (go_at_call 34; with_reducible refine (HN.out _ b12).mono ?_; rintro r w3 ⟨rfl, b3⟩; have b13 := b12.trans (b3.mono b12.size))
      | (go_at_call 40; with_reducible refine (HE.out _).mono ?_; rintro r w4 ⟨rfl, b4⟩; have b14 := b13.trans (b4.mono b13.size); have hr4 := own_later (own_later (own_later hrow b2) b3) b4; have hs4 := b14.size)
      | (at_builtin; refine wpList_append_own _ rfl _ _ 22 rfl w.heap.size 9 i0 (.string ⟨#[]⟩) 1 16 Tryd.underlying22 hi hz0 hz1 hz2 rfl (by decide) _ _ _ rfl (hr4.alloc _) ⟨w4.heap.size, 0, none⟩ 1 1 [.string x] rfl rfl (by simpa using cell_one_new w4 _ _) (str_one x) (by unfold maxLen; omega) (by omega) (by simp; omega) ?_; intro v' w5 hown' hgrow2 hnil2; have b15 : Below w.heap.size w w5 := (b14.alloc b14.size _).grown hgrow2 (by simp; omega) (fun j hj => by have := (hr4.lt j hj).1; omega); have hr5 : w5.ownsRow w.heap.size 9 1 v' (path ++ [x]).length (strs (path ++ [x])) := by rw [strs_snoc, List.length_append]; exact hown')
      | (go_at_call 41; with_reducible refine (join_row hr5 (by rw [List.length_append]; simp; omega) (fun y hy => by rcases List.mem_append.1 hy with h | h; exact HS.out y h; simp at h; rw [h]; have := HNL.out; omega)).mono ?_; rintro r w6 ⟨rfl, b6⟩))
    go_ret
    exact ⟨rfl, b15.trans (b6.mono b15.size)⟩

set_option maxRecDepth 100000 in
theorem assert_fault (p : Option Addr) (w : World) : (Instr.typeAssert (.iface 37 (.pointer p)) 26 37 true).run Tryd.prog w = .ok (.tuple #[.pointer p, .bool true]) w := by kernel_rfl
set_option maxRecDepth 100000 in
theorem w5Text_fault {w : World} {v : Value} {x : ByteArray} {path : List ByteArray} {n : Option Int} (hg : TypeOfError w) (hv : ErrAt w v (x :: path) n) (hl : path.length ≤ 999) (hs : ∀ y ∈ x :: path, y.size ≤ 1000) :
    Calls Tryd.prog 15 #[v] w fun r w' => r = .returned (.string (tellP (x :: path) n)) ∧ Below w.heap.size w w' := by
  obtain ⟨b, rfl⟩ : ∃ b, v = .iface 37 (.pointer (some ⟨b, 0, none⟩)) := by cases hv; exact ⟨_, rfl⟩
  have HE := Lib.hid (fError_any hg hv (by simp; omega) hs)
  have hta := assert_fault
  clear hg hv hs
  go_enter Tryd.func15, Tryd.ntmps15
  go_wp2_with (go_at_call 19; with_reducible refine HE.out.mono ?_; rintro r w1 ⟨rfl, b1⟩)
  go_ret
  exact ⟨rfl, b1⟩
end Go.Proofs.YtambeipbpemlkaaDoor
