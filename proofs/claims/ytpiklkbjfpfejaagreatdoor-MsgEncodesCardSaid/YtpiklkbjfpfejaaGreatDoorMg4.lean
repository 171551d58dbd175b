/- A message among the arguments, opened. -/
import Derived.Test.YtpiklkbjfpfejaaGreatDoorMg1
import Derived.Test.YtpiklkbjfpfejaaGreatDoorRow
import Derived.Deep.Strs
import Derived.SizedLaws
import Derived.OpenShut
namespace Go.Proofs.YtpiklkbjfpfejaaGreatDoor
open Go.RowKit Go.WideShapes Go.ChangeShapes Go.Deep
theorem weightsAll_mem {H : Type} {P : Program} {e : TypeId} : ∀ {l : List (DataW H)} {d : DataW H}, d ∈ l → ∀ n ∈ d.weights P e, n ∈ DataW.weightsAll P e l
  | d' :: r, d, hd, n, hn => by
    simp only [DataW.weightsAll, List.mem_append]
    rcases List.mem_cons.1 hd with rfl | h
    · exact Or.inl hn
    · exact Or.inr (weightsAll_mem h n hn)
section
variable {H : Type} {enc : TypeId × Value → H} {w : World} {base : Nat} {spare : Nat → Bool} {held : Bool}
set_option maxRecDepth 100000 in
theorem cells7Str : Tryz.prog.cellsOf 9 = 1 := by kernel_rfl
set_option maxRecDepth 100000 in
theorem cells7Int : Tryz.prog.cellsOf 3 = 1 := by kernel_rfl
set_option maxRecDepth 100000 in
theorem cells7U8 : Tryz.prog.cellsOf 5 = 1 := by kernel_rfl
set_option maxRecDepth 100000 in
theorem cells7Strs : Tryz.prog.cellsOf 45 = 1 := by kernel_rfl
set_option maxRecDepth 100000 in
theorem cells7Fields : Tryz.prog.cellsOf 22 = 1 := by kernel_rfl
set_option maxRecDepth 100000 in
theorem cells7Field : Tryz.prog.cellsOf 47 = 4 := by kernel_rfl
set_option maxRecDepth 100000 in
theorem cells7Msg : Tryz.prog.cellsOf 24 = 2 := by kernel_rfl
set_option maxRecDepth 100000 in
theorem bytes7Str : Tryz.prog.bytesOf 9 = 16 := by kernel_rfl

/-- A cell that holds a list of texts. -/
theorem texts_cell {fuel : Nat} {c : Value} {x : DataW H × List MemPlace} (h : DataW.trod enc Tryz.prog w base (fun _ => true) true fuel 45 [c] = some x) (hw : ∀ n ∈ x.1.weights Tryz.prog 45, n ≤ reachBytes) :
    ∃ (ao : Option Addr) (l : List (List UInt8)) (cap : Nat), c = .slice ao l.length cap ∧ l.length ≤ cap ∧ TextsAt w (.slice ao l.length cap) (l.map bs) ∧ l.length ≤ 8796093022208 ∧ ∀ y ∈ l, y.length ≤ 9223372036854775807 := by
  rcases open_strs Tryz.underlying45 Tryz.underlying9 cells7Str h with ⟨h1, _⟩ | ⟨a, len, cap, m, Sx, h1, hb, hl, hc, hm, rfl, hi⟩
  · simp only [List.cons.injEq, and_true] at h1
    exact ⟨none, [], 0, h1, Nat.le_refl _, TextsAt.nil _, by simp, by simp⟩
  · simp only [List.cons.injEq, and_true] at h1
    have hmc : m = cap := by simpa using hm
    have hlen : len ≤ 8796093022208 := by
      have h := hw ((len + (m - len)) * 16) (by simp [DataW.weights, Tryz.underlying45, bytes7Str])
      have hr : reachBytes = 140737488351232 := rfl
      rw [hr] at h
      omega
    rcases Nat.eq_zero_or_pos len with h0 | h0
    · subst h0
      exact ⟨some a, [], cap, h1, Nat.zero_le _, ⟨some a, cap, rfl, fun h => absurd rfl h⟩, by simp, by simp⟩
    · obtain ⟨b, off, spot⟩ := a
      have hspot : spot = none := by simpa [Addr.add] using World.cell?_spot (hi 0 (by omega)).1
      subst hspot
      have hblk := World.block_lt_of_cell? w _ (hi 0 (by omega)).1
      simp only [Addr.add_lit] at hi hblk
      refine ⟨some ⟨b, off, none⟩, (List.range len).map fun i => (Sx i).data.toList, cap, by simpa using h1, by simpa using hl, ⟨_, cap, by simp, fun _ => ⟨b, off, rfl, hblk, fun k x hk => ?_⟩⟩, by simpa using hlen, ?_⟩
      · rw [List.getElem?_map, List.getElem?_map] at hk
        by_cases hkl : k < len
        · rw [List.getElem?_range hkl] at hk
          simp only [Option.map_some, Option.some.injEq] at hk
          rw [← hk, bs_list]
          exact (hi k (by omega)).1
        · rw [List.getElem?_eq_none (by simp; omega)] at hk
          simp at hk
      · intro x hx'
        obtain ⟨k, hk, rfl⟩ := List.mem_map.1 hx'
        have := (hi k (by have := List.mem_range.1 hk; omega)).2
        unfold maxLen at this
        simpa using this

set_option maxRecDepth 100000 in
theorem fields_cell {fuel : Nat} {v : Value} {x : DataW H × List MemPlace} (h : DataW.trod enc Tryz.prog w base (fun _ => true) true fuel 22 [v] = some x) (hw : ∀ n ∈ x.1.weights Tryz.prog 22, n ≤ reachBytes) :
    ∃ fs : List FieldR, FieldsAt w v fs := by
  rcases open_slice Tryz.underlying22 h with ⟨h1, _⟩ | ⟨a, len, cap, m, k, D, Pl, h1, hb, hl, hc, hm, rfl, hi⟩
  · simp only [List.cons.injEq, and_true] at h1
    rw [h1]
    exact ⟨[], none, 0, rfl, by simp, by simp, by simp, fun h => absurd rfl h⟩
  · simp only [List.cons.injEq, and_true] at h1
    have hmc : m = cap := by simpa using hm
    have each : ∀ i, i < len → ∃ q : FieldR, FieldIn q ∧ (w.cell? (a.add (i * 4)) = some (.int .u8 (q.kind.toNat : Int)) ∧ w.cell? (a.add (i * 4 + 1)) = some (.int .i64 q.n) ∧ w.cell? (a.add (i * 4 + 2)) = some (.string (bs q.s)) ∧
        ∃ ao cap, w.cell? (a.add (i * 4 + 3)) = some (.slice ao q.l.length cap) ∧ q.l.length ≤ cap ∧ TextsAt w (.slice ao q.l.length cap) (q.l.map bs)) := by
      intro i hil
      obtain ⟨cs', hcs, ht⟩ := hi i (by omega)
      rw [cells7Field] at hcs
      obtain ⟨hb2, hlen, hat⟩ := World.cells?_some hcs
      obtain ⟨xs, m', _, hxe, _, hxl, hxs⟩ := DataW.trod_struct Tryz.underlying47 ht
      have hD : ∀ n ∈ (D i).weights Tryz.prog 47, n ≤ reachBytes := fun n hn => hw n (by
        simp only [DataW.weights, Tryz.underlying22, List.mem_cons, List.mem_append]
        exact .inr (.inl (weightsAll_mem (List.mem_map.2 ⟨i, List.mem_range.2 hil, rfl⟩) n hn)))
      match cs', hlen with
      | [c0, c1, c2, c3], _ =>
        have t0 : DataW.trod enc Tryz.prog w base _ _ m' 5 ((([c0, c1, c2, c3] : List Value).drop 0).take (Tryz.prog.cellsOf 5)) = xs[0]? := hxs 0 _ rfl
        have t1 : DataW.trod enc Tryz.prog w base _ _ m' 3 ((([c0, c1, c2, c3] : List Value).drop 1).take (Tryz.prog.cellsOf 3)) = xs[1]? := hxs 1 _ rfl
        have t2 : DataW.trod enc Tryz.prog w base _ _ m' 9 ((([c0, c1, c2, c3] : List Value).drop 2).take (Tryz.prog.cellsOf 9)) = xs[2]? := hxs 2 _ rfl
        have t3 : DataW.trod enc Tryz.prog w base _ _ m' 45 ((([c0, c1, c2, c3] : List Value).drop 3).take (Tryz.prog.cellsOf 45)) = xs[3]? := hxs 3 _ rfl
        simp only [cells7U8, cells7Int, cells7Str, cells7Strs] at t0 t1 t2 t3
        match xs, hxl with
        | [y0, y1, y2, y3], _ =>
          simp at t0 t1 t2 t3
          obtain ⟨z0, e0, _, w0⟩ := DataW.trod_int Tryz.underlying5 t0
          obtain ⟨z1, e1, _, w1⟩ := DataW.trod_int Tryz.underlying3 t1
          obtain ⟨z2, e2, _, hz⟩ := DataW.trod_string Tryz.underlying9 t2
          obtain ⟨ao3, l3, cap3, e3, hlc, hT3, hl3, hls⟩ := texts_cell t3 (fun n hn => hD n (by
            have hDi : D i = .agg ([y0, y1, y2, y3].map (·.1)) := congrArg Prod.fst hxe
            rw [hDi]
            simp only [DataW.weights, Tryz.underlying47]
            exact DataW.weights_mem_each (j := 3) (t := 45) rfl rfl n hn))
          simp at e0 e1 e2
          subst e0 e1 e2 e3
          have b0 := bounds_u8 w0
          have b1 := bounds_i64 w1
          have a0 := hat 0 (by omega)
          have a1 := hat 1 (by omega)
          have a2 := hat 2 (by omega)
          have a3 := hat 3 (by omega)
          simp only [Go.Deep.add_add, Nat.add_zero] at a0 a1 a2 a3
          obtain ⟨u, rfl⟩ : ∃ u : UInt8, z0 = (u.toNat : Int) := ⟨UInt8.ofNat z0.toNat, by
            rw [UInt8.toNat_ofNat_of_lt' (by show z0.toNat < 256; omega)]; omega⟩
          exact ⟨⟨u, z1, z2.data.toList, l3⟩, ⟨b1, by unfold maxLen at hz; simpa using hz, hl3, hls⟩, by simpa using a0, by simpa using a1, by rw [bs_list]; simpa using a2, ao3, cap3, by simpa using a3, hlc, hT3⟩
    rcases Nat.eq_zero_or_pos len with h0 | h0
    · subst h0
      rw [h1]
      exact ⟨[], some a, cap, rfl, by simp, by simp, by simp, fun h => absurd rfl h⟩
    · haveI : Inhabited FieldR := ⟨⟨0, 0, [], []⟩⟩
      obtain ⟨q, hq⟩ := choose_lt each
      obtain ⟨b, off, spot⟩ := a
      have hspot : spot = none := by simpa [Addr.add] using World.cell?_spot (hq 0 h0).2.1
      subst hspot
      have hblk := World.block_lt_of_cell? w _ (hq 0 h0).2.1
      simp only [Addr.add_lit] at hq hblk
      unfold maxLen at hc
      refine ⟨(List.range len).map q, some ⟨b, off, none⟩, cap, by rw [h1]; simp, by simpa using hl, by simp; omega, fun x hx => ?_, fun _ => ⟨b, off, rfl, hblk, fun k x hk => ?_⟩⟩
      · obtain ⟨k, hk, rfl⟩ := List.mem_map.1 hx
        exact (hq k (by simpa using hk)).1
      · rw [List.getElem?_map] at hk
        by_cases hkl : k < len
        · rw [List.getElem?_range hkl] at hk
          simp at hk
          subst hk
          have := (hq k hkl).2
          simp only [← Nat.add_assoc] at this
          exact this
        · rw [List.getElem?_eq_none (by simpa using hkl)] at hk
          simp at hk

set_option maxRecDepth 100000 in
theorem open_msg {v : Value} {d : DataW H} {p : List MemPlace} {b0 : Nat} (hv : Value.okWide Tryz.prog w .any b0 24 v) (h : DataW.Trod enc Tryz.prog w base (fun _ => true) true 24 v d p) (hw : ∀ n ∈ d.weights Tryz.prog 24, n ≤ reachBytes) :
    ∃ n v' fs, v = msgV n v' ∧ FieldsAt w v' fs := by
  obtain ⟨cs, rfl, hcs⟩ := okWide_struct Tryz.underlying24 hv
  obtain ⟨fuel, hf⟩ := h
  obtain ⟨xs, m', _, hxe, hlen, hxl, hxs⟩ := DataW.trod_struct Tryz.underlying24 hf
  rw [cells7Msg] at hlen
  obtain ⟨l⟩ := cs
  simp only [Value.cells] at hlen hxs
  match l, hlen with
  | [c0, c1], _ =>
    have t0 : DataW.trod enc Tryz.prog w base _ _ m' 3 ((([c0, c1] : List Value).drop 0).take (Tryz.prog.cellsOf 3)) = xs[0]? := hxs 0 _ rfl
    have t1 : DataW.trod enc Tryz.prog w base _ _ m' 22 ((([c0, c1] : List Value).drop 1).take (Tryz.prog.cellsOf 22)) = xs[1]? := hxs 1 _ rfl
    simp only [cells7Int, cells7Fields] at t0 t1
    match xs, hxl with
    | [y0, y1], _ =>
      simp at t0 t1
      obtain ⟨z0, e0, _, w0⟩ := DataW.trod_int Tryz.underlying3 t0
      simp at e0
      subst e0
      have hD : d = .agg ([y0, y1].map (·.1)) := congrArg Prod.fst hxe
      obtain ⟨fs, hfs⟩ := fields_cell t1 (fun n hn => hw n (by
        rw [hD]
        simp only [DataW.weights, Tryz.underlying24]
        exact DataW.weights_mem_each (j := 1) (t := 22) rfl rfl n hn))
      exact ⟨z0, c1, fs, rfl, hfs⟩
end
end Go.Proofs.YtpiklkbjfpfejaaGreatDoor
