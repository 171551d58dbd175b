/- The contracts of the arena's readers: has, Kind, Size, Len, New. -/
import Derived.Test.YtemhifeddejkjaaBase
import Derived.Test.YtemhifeddejkjaaMap
import Derived.Test.YtemhifeddejkjaaClone
import Derived.Outline
import Derived.Deep.DeepFit
import Derived.Maps.Own
namespace Go.Proofs.Ytemhifeddejkjaa
open Go.RowKit

/-- What the walks read off an arena: the two cells of its block, and each term's cells. -/
theorem ArenaAt.read {B A : Nat} {L : List Ent} {F : Nat → Prop} {w : World} (h : ArenaAt B A L F w) :
    ∃ ao cap mb, w.cell? ⟨A, 0, none⟩ = some (.slice ao L.length cap) ∧ w.cell? ⟨A, 1, none⟩ = some (.map (some mb)) ∧ L.length ≤ 1073741824 ∧
      ∀ i e, L[i]? = some e → ∃ g, ao = some ⟨g, 0, none⟩ ∧ ∀ j u, e.cells[j]? = some u → w.cell? ⟨g, i * 6 + j, none⟩ = some u := by
  obtain ⟨mb, tv, h1, h2, h3, h4, h5, h6, rfl⟩ := h
  have c0 := h1.cell 0
  have c1 := h1.cell 1
  rcases h2.2 with ⟨rfl, h0⟩ | ⟨g, cap, cur, rfl, hb, hg, rest⟩
  · have hL : L = [] := List.eq_nil_of_length_eq_zero h0
    subst hL
    exact ⟨none, 0, mb, c0, c1, h6.len, fun i e he => by simp at he⟩
  · refine ⟨_, cap, mb, c0, c1, h6.len, fun i e he => ⟨g, rfl, fun j u hu => ?_⟩⟩
    have hj : j < 6 := (List.getElem?_eq_some_iff.1 hu).1
    have := h2.cells (g := g) rfl (i * 6 + j) u (by rw [cellsOf_get L i j e he hj, hu])
    rw [Addr.add_lit, Nat.zero_add] at this
    exact this

theorem has_yes {B A : Nat} {L : List Ent} {F : Nat → Prop} {w : World} (h : ArenaAt B A L F w) (i : Nat) (hi : i < L.length) :
    Calls Try.prog 27 #[.pointer (some ⟨A, 0, none⟩), .int .i64 i] w fun e w' => e = .returned (.bool true) ∧ w = w' := by
  obtain ⟨ao, cap, mb, c0, _, hlen, _⟩ := h.read
  clear h
  go_enter Try.func27, Try.ntmps27
  go_wp2
  go_ret
  exact ⟨rfl, rfl⟩

theorem has_no {B A : Nat} {L : List Ent} {F : Nat → Prop} {w : World} (h : ArenaAt B A L F w) (i : Int) (hi : i < 0 ∨ L.length ≤ i) :
    Calls Try.prog 27 #[.pointer (some ⟨A, 0, none⟩), .int .i64 i] w fun e w' => e = .returned (.bool false) ∧ w = w' := by
  obtain ⟨ao, cap, mb, c0, _, hlen, _⟩ := h.read
  clear h
  by_cases h0 : i < 0
  · go_enter Try.func27, Try.ntmps27
    go_wp2
    go_ret
    exact ⟨rfl, rfl⟩
  · have h1 : (L.length : Int) ≤ i := by omega
    have hd : decide (i < (L.length : Int)) = false := by simp; omega
    go_enter Try.func27, Try.ntmps27
    go_wp2
    go_ret
    exact ⟨rfl, rfl⟩

theorem has_nil (i : Int) (w : World) : Calls Try.prog 27 #[.pointer none, .int .i64 i] w fun e w' => e = .returned (.bool false) ∧ w = w' := by
  go_enter Try.func27, Try.ntmps27
  go_wp2
  go_ret
  exact ⟨rfl, rfl⟩

/-- The n-th term, if there is one. -/
def at_ (L : List Ent) (i : Int) : Option Ent := if 0 ≤ i then L[i.toNat]? else none
theorem at_nat (L : List Ent) (i : Nat) : at_ L (i : Int) = L[i]? := by simp [at_]
theorem at_no {L : List Ent} {i : Int} (hi : i < 0 ∨ L.length ≤ i) : at_ L i = none := by
  unfold at_
  split
  · rw [List.getElem?_eq_none]; omega
  · rfl
def kindAt (L : List Ent) (i : Int) : Int := ((at_ L i).map (·.sh.kind)).getD 0
def sizeAt (L : List Ent) (i : Int) : Int := ((at_ L i).map (·.size)).getD 0

theorem Kind_any {B A : Nat} {L : List Ent} {F : Nat → Prop} {w : World} (h : ArenaAt B A L F w) (i : Int) :
    Calls Try.prog 57 #[.pointer (some ⟨A, 0, none⟩), .int .i64 i] w fun e w' => e = .returned (.int .i64 (kindAt L i)) ∧ w = w' := by
  by_cases hi : i < 0 ∨ L.length ≤ i
  · have hk : kindAt L i = 0 := by simp [kindAt, at_no hi]
    rw [hk]
    clear hk
    have HI := Lib.hid hi
    clear hi
    go_enter Try.func57, Try.ntmps57
    go_wp2_with (go_at_call 27; refine (has_no h _ HI.out).mono ?_; rintro e w' ⟨rfl, rfl⟩)
    go_ret
    exact ⟨rfl, rfl⟩
  · obtain ⟨n, rfl⟩ : ∃ n : Nat, i = n := ⟨i.toNat, by omega⟩
    have hn : n < L.length := by omega
    clear hi
    obtain ⟨ao, cap, mb, c0, _, hlen, hcells⟩ := h.read
    obtain ⟨g, rfl, hc⟩ := hcells n L[n] (List.getElem?_eq_getElem hn)
    have hcell : w.cell? ⟨g, n * 6, none⟩ = _ := hc 0 _ rfl
    have hk : kindAt L n = (L[n].sh.kind : Int) := by simp [kindAt, at_nat, hn]
    rw [hk]
    obtain ⟨kd, hkd⟩ : ∃ kd, kd = L[n].sh.kind := ⟨_, rfl⟩
    rw [← hkd] at hcell ⊢
    clear hcells hc hk hkd
    go_enter Try.func57, Try.ntmps57
    go_wp2_with (go_at_call 27; refine (has_yes h _ hn).mono ?_; rintro e w' ⟨rfl, rfl⟩)
    go_ret
    exact ⟨rfl, rfl⟩

theorem Size_any {B A : Nat} {L : List Ent} {F : Nat → Prop} {w : World} (h : ArenaAt B A L F w) (i : Int) :
    Calls Try.prog 16 #[.pointer (some ⟨A, 0, none⟩), .int .i64 i] w fun e w' => e = .returned (.int .i64 (sizeAt L i)) ∧ w = w' := by
  by_cases hi : i < 0 ∨ L.length ≤ i
  · have hk : sizeAt L i = 0 := by simp [sizeAt, at_no hi]
    rw [hk]
    clear hk
    have HI := Lib.hid hi
    clear hi
    go_enter Try.func16, Try.ntmps16
    go_wp2_with (go_at_call 27; refine (has_no h _ HI.out).mono ?_; rintro e w' ⟨rfl, rfl⟩)
    go_ret
    exact ⟨rfl, rfl⟩
  · obtain ⟨n, rfl⟩ : ∃ n : Nat, i = n := ⟨i.toNat, by omega⟩
    have hn : n < L.length := by omega
    clear hi
    obtain ⟨ao, cap, mb, c0, _, hlen, hcells⟩ := h.read
    obtain ⟨g, rfl, hc⟩ := hcells n L[n] (List.getElem?_eq_getElem hn)
    have hcell := hc 5 _ rfl
    have hk : sizeAt L n = (L[n].size : Int) := by simp [sizeAt, at_nat, hn]
    rw [hk]
    obtain ⟨kd, hkd⟩ : ∃ kd, kd = L[n].size := ⟨_, rfl⟩
    rw [← hkd] at hcell ⊢
    clear hcells hc hk hkd
    go_enter Try.func16, Try.ntmps16
    go_wp2_with (go_at_call 27; refine (has_yes h _ hn).mono ?_; rintro e w' ⟨rfl, rfl⟩)
    go_ret
    exact ⟨rfl, rfl⟩

theorem New_any (w : World) : Calls Try.prog 7 #[] w fun e w' => ∃ A F, e = .returned (.pointer (some ⟨A, 0, none⟩)) ∧ ArenaAt w.heap.size A [] F w' ∧ Below w.heap.size w w' := by
  have hmm := @run_makeMap Try.prog
  go_enter Try.func7, Try.ntmps7
  go_wp2
  go_ret
  have h1 := Holds.new (w.alloc (.map #[] 0)) 58 #[.slice none 0 0, .map (some w.heap.size)]
  rw [World.size_alloc] at h1
  refine ⟨_, _, rfl, ⟨w.heap.size, .slice none 0 0, h1, ⟨rfl, .inl ⟨rfl, rfl⟩⟩, ?_, by omega, Nat.le_refl _, ⟨by simp, by simp, by simp, by simp⟩, rfl⟩, ((Below.refl _ _).alloc (Nat.le_refl _) _).alloc (by simp) _⟩
  rw [Below.heap_alloc _ _ _ (by simp)]
  exact (MapKept.heap_alloc w _).1
end Go.Proofs.Ytemhifeddejkjaa
