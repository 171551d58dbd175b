/- Part 13 of what the statement wants. -/
import Derived.Outline
import Derived.Laws.BytesArg
import Derived.Laws.MakeOwn
import Derived.Lib.Strings
import Derived.Lib.Walk
import Derived.Lib.BufferWrite
import Derived.Lib.UnsafeStr
import Derived.Deep.DeepFit
import Derived.Maps.Own
import Derived.Test.YtjlbifpbdocahaaPk00
import Derived.Test.YtjlbifpbdocahaaPk12
namespace Go.Proofs.Ytjlbifpbdocahaa
open Go.RowKit
set_option maxRecDepth 100000 in
theorem pack_any (v : Value) (l : List Nat) (w : World) (hv : IdsAt w v (l.map Int.ofNat)) (hl : l.length ≤ 65536) (ht : ∀ t ∈ l, t < 4294967296) :
    Calls Try.prog 82 #[v] w fun e w' => e = .returned (.string (packB l)) ∧ Below w.heap.size w w' := by
  obtain ⟨ao, cap, rfl, hc⟩ := hv
  obtain ⟨i0, hi, hz0, hz1, hz2⟩ := info_parts info_u8
  simp only [List.length_map] at *
  go_enter Try.func82, Try.ntmps82
  go_wp2_with (at_make; refine wpList_make_own _ rfl _ _ 83 rfl w.heap.size 5 i0 _ 1 Try.underlying83 hi hz0 hz1 _ _ _ (4 * l.length) rfl rfl (by omega) ?b1 ?b2 ?b3 ?_)
  case b1 => rw [hz2]; omega
  case b2 => unfold maxLen; omega
  case b3 => exact Nat.le_refl _
  intro w1 hown hgrow
  have hbel : Below w.heap.size w w1 := (Below.refl _ _).grown hgrow (Nat.le_refl _) (by simp)
  go_wp2
  go_loopw [3, 12] (fun v i wr => ∃ k : Nat, k ≤ l.length ∧ i = .int .i64 k ∧ v = .slice (some ⟨w.heap.size, 0, none⟩) (4 * k) (4 * l.length) ∧
      wr.ownsRow w.heap.size 5 1 (.slice (some ⟨w.heap.size, 0, none⟩) (4 * k) (4 * l.length)) (4 * k) (byteCells (packL (l.take k))) ∧ Below w.heap.size w wr) (fun _ i _ => l.length - (intOf i).toNat)
  case atStart => exact ⟨0, Nat.zero_le _, rfl, rfl, by simpa [packL, byteCells] using hown, hbel⟩
  case round =>
    clear hown hbel hgrow
    obtain ⟨k, hk, rfl, rfl, hown, hbel⟩ := hrel
    by_cases hlt : k < l.length
    · obtain ⟨b, off, rfl, hb, hcell⟩ := hc (by intro h; simp at h; subst h; simp at hlt)
      have htk := ht l[k] (List.getElem_mem hlt)
      obtain ⟨t, hT⟩ : ∃ t, t = l[k] := ⟨_, rfl⟩
      have hc1 := (hbel.cell (p := ⟨b, off + k, none⟩) hb).trans (hcell k (t : Int) (by simp [hT, hlt]))
      rw [← hT] at htk
      clear hcell hc ht
      have HT := Lib.hid hT
      clear hT
      go_wp2_with (at_builtin; refine wpList_append_fits _ rfl (.tmp 16) (.tmp 28) _ rfl w.heap.size 5 i0 1 Try.underlying83 hi hz1 w.heap.size (4 * k) (4 * l.length) _ rfl (hown.alloc _) ⟨wr.heap.size, 0, none⟩ 4 4 [.int .u8 ((t : Int) / 16777216), .int .u8 ((t : Int) / 65536 % 256), .int .u8 ((t : Int) / 256 % 256), .int .u8 ((t : Int) % 256)] rfl rfl ?c1 ?c2 (by omega) ?_)
      case c1 =>
        intro j u hj
        have hg := Holds.new wr 5 #[.int .u8 ((t : Int) / 16777216), .int .u8 ((t : Int) / 65536 % 256), .int .u8 ((t : Int) / 256 % 256), .int .u8 ((t : Int) % 256)]
        rw [Addr.add_lit, Nat.zero_add, hg.cell]
        simpa using hj
      case c2 => intro u hu; simp at hu; rcases hu with rfl | rfl | rfl | rfl <;> rfl
      intro w2 hown2 hgrow2
      have hbel2 : Below w.heap.size w w2 := (hbel.alloc hbel.size _).grown hgrow2 (by simp; have := hbel.size; omega) (by simp)
      rw [pack4_cells t htk, HT.out, ← packed_step l k hlt, show 4 * k + 4 = 4 * (k + 1) from rfl] at hown2
      clear hown hbel hgrow2
      go_wp2
      go_roundw
      case rel => exact ⟨k + 1, by omega, by go_num, rfl, hown2, hbel2⟩
      case measure => simp [intOf]; omega
    · have hk' : k = l.length := by omega
      subst hk'
      rw [List.take_length] at hown
      have hcv := run_string_own hown
      clear hc
      go_wp2
      go_ret
      exact ⟨rfl, hbel⟩
end Go.Proofs.Ytjlbifpbdocahaa

namespace Go.Proofs.Ytjlbifpbdocahaa
open Go.RowKit

set_option maxRecDepth 100000 in
theorem slClone_any (s : ByteArray) (w : World) (hs : s.size ≤ 1048576) : Calls Try.prog 108 #[.string s] w fun e w' => e = .returned (.string s) ∧ Below w.heap.size w w' := by
  by_cases h0 : s.size = 0
  · obtain rfl : s = ⟨#[]⟩ := ByteArray.ext (Array.eq_empty_of_size_eq_zero h0)
    go_enter Try.func108, Try.ntmps108
    go_wp2
    go_ret
    exact ⟨rfl, Below.refl _ _⟩
  · obtain ⟨i0, hi, hz0, hz1, hz2⟩ := info_parts info_u8
    have hinfo : (Try.prog.info? 5).map (·.size) = some 1 := by rw [hi]; simp [hz1]
    have hco : Try.prog.cellsOf 5 = 1 := by simp [Program.cellsOf, hi, hz1]
    obtain ⟨M, hM⟩ : ∃ M, M = madeCells (Value.int .u8 0).cells (((s.size : Nat) : Int).toNat * i0.size) := ⟨_, rfl⟩
    have hMs : M.size = s.size := by rw [hM, size_madeCells, hz1]; simp
    have hmk : ∀ W : World, (Instr.makeSlice 83 (.int .i64 (s.size : Int)) (.int .i64 (s.size : Int))).run Try.prog W = .ok (.slice (some ⟨W.heap.size, 0, none⟩) s.size s.size) (W.alloc (.cells M 5)) := fun W => by
      have h := run_make (P := Try.prog) W 83 5 i0 (.int .u8 0) Try.underlying83 hi hz0 .i64 .i64 (s.size : Int) (s.size : Int) (by omega) (by omega) (by rw [hz2]; omega) (by omega)
      rw [← hM] at h
      simpa using h
    clear hM
    have hcp := Lib.run_copy_row_string (P := Try.prog) (w.alloc (.cells M 5)) 83 9 3 5 w.heap.size 0 s.size s.size s M 5 Try.underlying83 hinfo (heap_alloc_new w _) (Nat.le_refl _) (by omega)
    obtain ⟨Y, hY⟩ : ∃ Y, Y = (M.toList.take 0 ++ Lib.byteCells s.data.toList ++ M.toList.drop (0 + s.size)).toArray := ⟨_, rfl⟩
    rw [← hY] at hcp
    have hYl : Y.toList = Lib.byteCells s.data.toList := by
      rw [hY, List.toList_toArray, List.take_zero, List.nil_append, List.drop_of_length_le (by rw [Array.length_toList]; omega), List.append_nil]
    have hYs : Y.size = s.size := by rw [← Array.length_toList, hYl, Lib.byteCells_length, ← Lib.size_eq]
    have hgY : ((w.alloc (.cells M 5)).setRow w.heap.size Y).heap[w.heap.size]? = some (.cells Y 5 (0, 0)) := setRow_heap _ _ M _ 5 (0, 0) (heap_alloc_new w _)
    have hne : s.data.toList ≠ [] := fun e => h0 (by rw [Lib.size_eq, e]; rfl)
    have hUS := Lib.run_unsafeString_row (P := Try.prog) ((w.alloc (.cells M 5)).setRow w.heap.size Y) 168 3 9 5 Try.underlying168 hco w.heap.size Y.size (by unfold World.shape?; rw [hgY]) s.data.toList hne (by rw [← Lib.size_eq]; omega) (by rw [← Lib.size_eq]; omega)
      (fun j x hx => Lib.cells_of_row hgY Y.size j _ (by rw [List.take_of_length_le (by rw [Array.length_toList]; exact Nat.le_refl _), hYl]; simp [Lib.byteCells, hx]))
    rw [← Lib.size_eq] at hUS
    clear hY
    go_enter Try.func108, Try.ntmps108
    go_wp2
    go_ret
    have hb1 : Below w.heap.size w (w.alloc (.cells M 5)) := (Below.refl _ w).alloc (Nat.le_refl _) _
    have hb2 : Below w.heap.size (w.alloc (.cells M 5)) ((w.alloc (.cells M 5)).setRow w.heap.size Y) := ⟨rfl, rfl, rfl, by simp, fun k hk => setRow_other _ _ _ _ (by omega)⟩
    exact ⟨rfl, Lib.below_freeze (hb1.trans hb2) (p := ⟨w.heap.size, 0, none⟩) (Nat.le_refl _) _⟩

theorem Clone_any (s : ByteArray) (w : World) (hs : s.size ≤ 1048576) : Calls Try.prog 98 #[.string s] w fun e w' => e = .returned (.string s) ∧ Below w.heap.size w w' := by
  go_enter Try.func98, Try.ntmps98
  go_wp2_with (go_at_call 108; refine (slClone_any _ _ hs).mono ?_; rintro e w' ⟨rfl, hb⟩)
  go_ret
  exact ⟨rfl, hb⟩
end Go.Proofs.Ytjlbifpbdocahaa

namespace Go.Proofs.Ytjlbifpbdocahaa
open Go.RowKit

/-- What the walks read off an arena: the two cells of its block, and each term's cells. -/
theorem ArenaAt.read {B A : Nat} {L : List Ent} {F : Nat → Prop} {w : World} (h : ArenaAt B A L F w) :
    ∃ ao cap mb, w.cell? ⟨A, 0, none⟩ = some (.slice ao L.length cap) ∧ w.cell? ⟨A, 1, none⟩ = some (.map (some mb)) ∧ L.length ≤ 1073741824 ∧
      ∀ i e, L[i]? = some e → ∃ g, ao = some ⟨g, 0, none⟩ ∧ ∀ j u, e.cells[j]? = some u → w.cell? ⟨g, i * 6 + j, none⟩ = some u := by
  obtain ⟨mb, tv, h1, h2, h3, h4, h5, h6, rfl⟩ := h
  have c0 := h1.cell 0
  have c1 := h1.cell 1
  rcases h2.2 with ⟨rfl, h0⟩ | ⟨g, cap, cur, rfl, hb, hg, rest⟩
  · have hL : L = [] := List.eq_nil_of_length_eq_zero h0
    subst hL
    exact ⟨none, 0, mb, c0, c1, h6.len, fun i e he => by simp at he⟩
  · refine ⟨_, cap, mb, c0, c1, h6.len, fun i e he => ⟨g, rfl, fun j u hu => ?_⟩⟩
    have hj : j < 6 := (List.getElem?_eq_some_iff.1 hu).1
    have := h2.cells (g := g) rfl (i * 6 + j) u (by rw [cellsOf_get L i j e he hj, hu])
    rw [Addr.add_lit, Nat.zero_add] at this
    exact this

theorem has_yes {B A : Nat} {L : List Ent} {F : Nat → Prop} {w : World} (h : ArenaAt B A L F w) (i : Nat) (hi : i < L.length) :
    Calls Try.prog 56 #[.pointer (some ⟨A, 0, none⟩), .int .i64 i] w fun e w' => e = .returned (.bool true) ∧ w = w' := by
  obtain ⟨ao, cap, mb, c0, _, hlen, _⟩ := h.read
  clear h
  go_enter Try.func56, Try.ntmps56
  go_wp2
  go_ret
  exact ⟨rfl, rfl⟩

theorem has_no {B A : Nat} {L : List Ent} {F : Nat → Prop} {w : World} (h : ArenaAt B A L F w) (i : Int) (hi : i < 0 ∨ L.length ≤ i) :
    Calls Try.prog 56 #[.pointer (some ⟨A, 0, none⟩), .int .i64 i] w fun e w' => e = .returned (.bool false) ∧ w = w' := by
  obtain ⟨ao, cap, mb, c0, _, hlen, _⟩ := h.read
  clear h
  by_cases h0 : i < 0
  · go_enter Try.func56, Try.ntmps56
    go_wp2
    go_ret
    exact ⟨rfl, rfl⟩
  · have h1 : (L.length : Int) ≤ i := by omega
    have hd : decide (i < (L.length : Int)) = false := by simp; omega
    go_enter Try.func56, Try.ntmps56
    go_wp2
    go_ret
    exact ⟨rfl, rfl⟩

theorem has_nil (i : Int) (w : World) : Calls Try.prog 56 #[.pointer none, .int .i64 i] w fun e w' => e = .returned (.bool false) ∧ w = w' := by
  go_enter Try.func56, Try.ntmps56
  go_wp2
  go_ret
  exact ⟨rfl, rfl⟩

/-- The n-th term, if there is one. -/
def at_ (L : List Ent) (i : Int) : Option Ent := if 0 ≤ i then L[i.toNat]? else none
theorem at_nat (L : List Ent) (i : Nat) : at_ L (i : Int) = L[i]? := by simp [at_]
theorem at_no {L : List Ent} {i : Int} (hi : i < 0 ∨ L.length ≤ i) : at_ L i = none := by
  unfold at_
  split
  · rw [List.getElem?_eq_none]; omega
  · rfl
def kindAt (L : List Ent) (i : Int) : Int := ((at_ L i).map (·.sh.kind)).getD 0
def sizeAt (L : List Ent) (i : Int) : Int := ((at_ L i).map (·.size)).getD 0

theorem Kind_any {B A : Nat} {L : List Ent} {F : Nat → Prop} {w : World} (h : ArenaAt B A L F w) (i : Int) :
    Calls Try.prog 51 #[.pointer (some ⟨A, 0, none⟩), .int .i64 i] w fun e w' => e = .returned (.int .i64 (kindAt L i)) ∧ w = w' := by
  by_cases hi : i < 0 ∨ L.length ≤ i
  · have hk : kindAt L i = 0 := by simp [kindAt, at_no hi]
    rw [hk]
    clear hk
    have HI := Lib.hid hi
    clear hi
    go_enter Try.func51, Try.ntmps51
    go_wp2_with (go_at_call 56; refine (has_no h _ HI.out).mono ?_; rintro e w' ⟨rfl, rfl⟩)
    go_ret
    exact ⟨rfl, rfl⟩
  · obtain ⟨n, rfl⟩ : ∃ n : Nat, i = n := ⟨i.toNat, by omega⟩
    have hn : n < L.length := by omega
    clear hi
    obtain ⟨ao, cap, mb, c0, _, hlen, hcells⟩ := h.read
    obtain ⟨g, rfl, hc⟩ := hcells n L[n] (List.getElem?_eq_getElem hn)
    have hcell : w.cell? ⟨g, n * 6, none⟩ = _ := hc 0 _ rfl
    have hk : kindAt L n = (L[n].sh.kind : Int) := by simp [kindAt, at_nat, hn]
    rw [hk]
    obtain ⟨kd, hkd⟩ : ∃ kd, kd = L[n].sh.kind := ⟨_, rfl⟩
    rw [← hkd] at hcell ⊢
    clear hcells hc hk hkd
    go_enter Try.func51, Try.ntmps51
    go_wp2_with (go_at_call 56; refine (has_yes h _ hn).mono ?_; rintro e w' ⟨rfl, rfl⟩)
    go_ret
    exact ⟨rfl, rfl⟩

theorem New_any (w : World) : Calls Try.prog 8 #[] w fun e w' => ∃ A F, e = .returned (.pointer (some ⟨A, 0, none⟩)) ∧ ArenaAt w.heap.size A [] F w' ∧ Below w.heap.size w w' := by
  have hmm := @run_makeMap Try.prog
  go_enter Try.func8, Try.ntmps8
  go_wp2
  go_ret
  have h1 := Holds.new (w.alloc (.map #[] 0)) 79 #[.slice none 0 0, .map (some w.heap.size)]
  rw [World.size_alloc] at h1
  refine ⟨_, _, rfl, ⟨w.heap.size, .slice none 0 0, h1, ⟨rfl, .inl ⟨rfl, rfl⟩⟩, ?_, by omega, Nat.le_refl _, ⟨by simp, by simp, by simp, by simp⟩, rfl⟩, ((Below.refl _ _).alloc (Nat.le_refl _) _).alloc (by simp) _⟩
  rw [Below.heap_alloc _ _ _ (by simp)]
  exact (MapKept.heap_alloc w _).1
end Go.Proofs.Ytjlbifpbdocahaa

namespace Go.Proofs.Ytjlbifpbdocahaa
open Go.RowKit

theorem owns_moves {S : Nat → Prop} {w w' : World} {B : Nat} {e : TypeId} {size n : Nat} {v : Value} {xs : List Value} (h : w.ownsRow B e size v n xs) (m : Moves S w w') (hS : ∀ k, v.ownBlock = some k → ¬ S k) : w'.ownsRow B e size v n xs := by
  refine ⟨h.1, ?_⟩
  rcases h.2 with hn | ⟨g, cap, cur, rfl, hb, hg, rest⟩
  · exact .inl hn
  · exact .inr ⟨g, cap, cur, rfl, hb, (m.block g (Array.getElem?_eq_some_iff.1 hg).1 (hS g rfl)).trans hg, rest⟩
theorem own_ne {w : World} {B : Nat} {e t : TypeId} {size n g : Nat} {v : Value} {xs : List Value} {cs : Array Value} (h : w.ownsRow B e size v n xs) (hg : Holds w g t cs) (hne : e ≠ t) : ¬ v.ownBlock = some g := by
  intro he
  rcases h.2 with ⟨rfl, _⟩ | ⟨g', cap, cur, rfl, _, hh, _⟩
  · simp [Value.ownBlock] at he
  · have : g' = g := by simpa [Value.ownBlock] using he
    subst this
    unfold Holds at hg
    rw [hh] at hg
    injection hg with hg
    injection hg with _ ht
    exact hne ht
theorem owns_lower {w : World} {B B' : Nat} {e : TypeId} {size n : Nat} {v : Value} {xs : List Value} (h : w.ownsRow B e size v n xs) (hb : B' ≤ B) : w.ownsRow B' e size v n xs := by
  refine ⟨h.1, ?_⟩
  rcases h.2 with hn | ⟨g, cap, cur, rfl, hg, rest⟩
  · exact .inl hn
  · exact .inr ⟨g, cap, cur, rfl, Nat.le_trans hb hg, rest⟩
end Go.Proofs.Ytjlbifpbdocahaa
