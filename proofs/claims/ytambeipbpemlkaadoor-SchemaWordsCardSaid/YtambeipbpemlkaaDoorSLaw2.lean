/- The walk of SchemaWords. -/
import Derived.Test.YtambeipbpemlkaaDoorSOf
namespace Go.Proofs.YtambeipbpemlkaaDoor
open Go.RowKit

/-- The last number with that word, as the law seeks it. -/
def wantP (l : List RowT) (s : ByteArray) : Int := l.foldl (fun a r => if r.2.1 = s then r.1 else a) 0
theorem wantP_snoc (l : List RowT) (r : RowT) (s : ByteArray) : wantP (l ++ [r]) s = if r.2.1 = s then r.1 else wantP l s := by simp [wantP]
theorem wantP_none {l : List RowT} {s : ByteArray} (h : ∀ r ∈ l, r.2.1 ≠ s) : wantP l s = 0 := by
  unfold wantP
  suffices ∀ a : Int, l.foldl (fun a r => if r.2.1 = s then r.1 else a) a = a from this 0
  induction l with
  | nil => intro a; rfl
  | cons x l ih =>
    intro a
    rw [List.foldl_cons, if_neg (h x (by simp))]
    exact ih (fun r hr => h r (by simp [hr])) a
set_option maxRecDepth 100000 in
theorem words_once : ∀ r ∈ tableP, (numP r.2.1).1 = r.1 ∧ (numP r.2.1).2 = true ∧ wantP tableP r.2.1 = r.1 ∧ r.1 ≠ 0 := by decide +kernel
theorem num_want (s : ByteArray) : (numP s).1 = wantP tableP s ∧ (numP s).2 = (wantP tableP s != 0) := by
  by_cases h : ∃ r ∈ tableP, r.2.1 = s
  · obtain ⟨r, hr, rfl⟩ := h
    obtain ⟨a, b, c, d⟩ := words_once r hr
    exact ⟨by rw [a, c], by rw [b, c]; simpa using d⟩
  · have h' : ∀ r ∈ tableP, r.2.1 ≠ s := fun r hr e => h ⟨r, hr, e⟩
    rw [numP_none h', wantP_none h']
    exact ⟨rfl, rfl⟩

set_option maxRecDepth 100000 in
theorem schemaWords_any {w : World} (hT : TabAt w) (s : ByteArray) (hs : s.size ≤ maxLen) : Calls Tryd.prog 7 #[.string s] w fun e w' => e = .returned (.bool true) ∧ Below w.heap.size w w' := by
  have HAW := Lib.hid awake6_any
  by_cases hl : s.size ≤ 60
  · have HN : Hid (Calls Tryd.prog 31 #[.string s] w fun e w' => e = .returned (.tuple #[.int .i64 (wantP tableP s), .bool (wantP tableP s != 0)]) ∧ Below w.heap.size w w') := (num_any hT s).mono fun e w' ⟨he, hb⟩ => ⟨by rw [he, (num_want s).1, (num_want s).2], hb⟩
    have HTab := Lib.hid table_any
    have hlen : tableP.length = 19 := rfl
    generalize tableP = l at *
    clear hs hT
    go_enter Tryd.func7, Tryd.ntmps7
    go_wp2_with (first
      | (go_at_call 31; with_reducible refine HN.out.mono ?_; rintro e w1 ⟨rfl, b1⟩)
      | (go_at_call 32; with_reducible refine (HTab.out _).mono ?_; rintro e w2 ⟨b, rfl, hrow, b2⟩))
    have HB : Hid (Below w.heap.size w w2) := b1.trans (b2.mono b1.size)
    have hbl := hrow.1
    have HR := Lib.hid hrow
    clear hrow b1 b2 HN HTab
    go_loopw [5, 7] (fun m i wr => ∃ k : Nat, k ≤ 19 ∧ m = .int .i64 (wantP (l.take k) s) ∧ i = .int .i64 k ∧ wr = w2) (fun _ i _ => 19 - (intOf i).toNat)
    case atStart => exact ⟨0, Nat.zero_le _, rfl, rfl, rfl⟩
    case round =>
      obtain ⟨k, hk, rfl, rfl, rfl⟩ := hrel
      by_cases hlt : k < 19
      · have hkl : k < l.length := by omega
        obtain ⟨x, hx⟩ : ∃ x, x = l[k] := ⟨_, rfl⟩
        obtain ⟨d0, d1, _⟩ := HR.out.2.2 k x (by rw [hx]; exact List.getElem?_eq_getElem hkl)
        have HY : Hid (x.2.1 = s → wantP (l.take (k + 1)) s = x.1) := fun e => by
          show _ = _
          rw [List.take_succ_eq_append_getElem hkl, wantP_snoc, ← hx, if_pos e]
        have HZ : Hid (x.2.1 ≠ s → wantP (l.take (k + 1)) s = wantP (l.take k) s) := fun e => by
          show _ = _
          rw [List.take_succ_eq_append_getElem hkl, wantP_snoc, ← hx, if_neg e]
        obtain ⟨xn, xs, xf⟩ := x
        clear hx
        simp only at d0 d1
        by_cases hm : xs = s
        · have HM := Lib.hid hm
          have hbq := same_yes hm
          clear hm
          go_wp2_with fail
          go_roundw
          case rel => exact ⟨k + 1, by omega, by rw [HY.out HM.out], by go_num, trivial⟩
          case measure => simp [intOf]; omega
        · have HM := Lib.hid hm
          have hbq := same_no hm
          clear hm
          go_wp2_with fail
          go_roundw
          case rel => exact ⟨k + 1, by omega, by rw [HZ.out HM.out], by go_num, trivial⟩
          case measure => simp [intOf]; omega
      · have hkl : k = 19 := by omega
        subst hkl
        rw [List.take_of_length_le (by omega)]
        clear hlt
        generalize wantP l s = M at *
        go_wp2_with (go_at_call 25; refine (HAW.out _).mono ?_; rintro e w3 ⟨rfl, b3⟩)
        go_ret
        exact ⟨by simp, HB.out.trans (b3.mono HB.out.size)⟩
  · clear hT
    unfold maxLen at hs
    go_enter Tryd.func7, Tryd.ntmps7
    go_wp2_with (go_at_call 25; refine (HAW.out _).mono ?_; rintro e w3 ⟨rfl, b3⟩)
    go_ret
    exact ⟨rfl, b3⟩
end Go.Proofs.YtambeipbpemlkaaDoor
