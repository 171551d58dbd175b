/- Part 22 of what the statement wants. -/
import Derived.Deep.RegionLaw
import Derived.Deep.AppendLies
import Derived.Deep.DeepCutAuto
import Derived.Deep.CutRange
import Derived.Test.YtobhpclemmhpoaaGreatDoorPk21
namespace Go.Proofs.YtobhpclemmhpoaaGreatDoor
open Go.RowKit

/-- What stands behind the first append: the data of the four texts, and the key. -/
def LCut (B : Nat) (w0 : World) (A n : Nat) (P : List (Int × List UInt8)) (W1 : World) (l4 : List (List UInt8)) (kk : Int) (v : Value) (W' : World) : Prop :=
  ∃ (ids : List Int) (g c : Nat), v = .slice (some ⟨g, 0, none⟩) 5 c ∧ ids.length = 4 ∧ W'.ownsRow W1.heap.size 36 1 v 5 (idCells (ids ++ [kk])) ∧ Ta B w0 A (dataP l4 ids ++ P) (n + 4) W' ∧ Kept W1 W'
set_option maxRecDepth 100000 in
theorem sizeXParts : (Tryz.prog.info? 38).map (·.size) = some 14 := by kernel_rfl
theorem ids_one (l : List Int) : ∀ u ∈ idCells l, u.oneCell' = true := fun u hu => by
  obtain ⟨x, _, rfl⟩ := List.mem_map.1 hu
  rfl
theorem row_some {w : World} {base m : Nat} {t : TypeId} {v : Value} {xs : List Value} (h : w.ownsRow base t 1 v m xs) (hm : 0 < m) : ∃ g c, v = .slice (some ⟨g, 0, none⟩) m c := by
  rcases h.2 with ⟨_, h0⟩ | ⟨g, cap, cur, rfl, _⟩
  · omega
  · exact ⟨g, cap, rfl⟩
theorem one_news {W : World} {g : Nat} {k : Int} (h : Holds W g 36 #[.int .i64 k]) : ∀ (j : Nat) (u : Value), ([.int .i64 k] : List Value)[j]? = some u → W.cell? ((⟨g, 0, none⟩ : Addr).add j) = some u := fun j u hj => by
  match j, hj with
  | 0, hj => simp at hj; subst hj; exact h.cell 0
  | j + 1, hj => simp at hj
/-- The texts of the hash input. -/
def listL20 (l4 : List (List UInt8)) (key : List UInt8) (asks : Bool) (l5 : List (List UInt8)) (e f k : List UInt8) : List (List UInt8) := l4.map refDataL ++ [key] ++ (if asks = true then l5.map refDataL else []) ++ [e, f, k]
theorem idCells_app (a b : List Int) : idCells (a ++ b) = idCells a ++ idCells b := by simp [idCells]
theorem three_one (a b c : Int) : ∀ u ∈ ([.int .i64 a, .int .i64 b, .int .i64 c] : List Value), u.oneCell' = true := by simp [Value.oneCell']
theorem three_news {W : World} {g : Nat} {a b c : Int} (h : Holds W g 36 #[.int .i64 a, .int .i64 b, .int .i64 c]) : ∀ (j : Nat) (u : Value), ([.int .i64 a, .int .i64 b, .int .i64 c] : List Value)[j]? = some u → W.cell? ((⟨g, 0, none⟩ : Addr).add j) = some u := fun j u hj => by
  match j, hj with
  | 0, hj => simp at hj; subst hj; exact h.cell 0
  | 1, hj => simp at hj; subst hj; exact h.cell 1
  | 2, hj => simp at hj; subst hj; exact h.cell 2
  | j + 3, hj => simp at hj
theorem ids_new20 (w : World) (l : List Int) (t : TypeId) : IdsAt (w.alloc (.cells (l.map fun x => Value.int .i64 x).toArray t)) (.slice (some ⟨w.heap.size, 0, none⟩) l.length l.length) l :=
  ⟨_, _, rfl, fun _ => ⟨_, 0, rfl, by simp, fun k x hk => by
    rw [Nat.zero_add, (Holds.new w t _).cell]
    simp [hk]⟩⟩
section
variable {B A n : Nat} {w0 W : World} {P : List (Int × List UInt8)}
theorem list_final {W1 : World} (hn : n ≤ 1000) (ids : List Int) (l4 : List (List UInt8)) {kk ke kf kt : Int} {tk te tf tt : List UInt8} (hi : ids.length = 4) (hl : l4.length = 4) (mk : (kk, tk) ∈ P) (me : (ke, te) ∈ P) (mf : (kf, tf) ∈ P) (mt : (kt, tt) ∈ P) :
    (∀ (W9 : World) (v : Value), Ta B w0 A (dataP l4 ids ++ P) (n + 4) W9 → W9.ownsRow W1.heap.size 36 1 v 8 (idCells (ids ++ [kk] ++ [ke, kf, kt])) → Calls Tryz.prog 29 #[.pointer (some ⟨A, 0, none⟩), v] W9 (TaPost B w0 A (dataP l4 ids ++ P) (n + 5) W9 (refListL (listL20 l4 tk false [] te tf tt)))) ∧
    (∀ (ids5 : List Int) (l5 : List (List UInt8)) (W9 : World) (v : Value), ids5.length = 5 → l5.length = 5 → Ta B w0 A (dataP l5 ids5 ++ (dataP l4 ids ++ P)) (n + 9) W9 → W9.ownsRow W1.heap.size 36 1 v 13 (idCells (ids ++ [kk] ++ ids5 ++ [ke, kf, kt])) → Calls Tryz.prog 29 #[.pointer (some ⟨A, 0, none⟩), v] W9 (TaPost B w0 A (dataP l5 ids5 ++ (dataP l4 ids ++ P)) (n + 10) W9 (refListL (listL20 l4 tk true l5 te tf tt)))) := by
  have hz : ids.length = (l4.map refDataL).length := by simp [hi, hl]
  have zin : ∀ q ∈ ids.zip (l4.map refDataL), q ∈ dataP l4 ids := fun q hq => by unfold dataP; rw [List.mem_reverse]; exact hq
  refine ⟨fun W9 v t9 hr => ?_, fun ids5 l5 W9 v h5 g5 t9 hr => ?_⟩
  · have hI : IdsAt W9 v ((ids.zip (l4.map refDataL) ++ [(kk, tk)] ++ [(ke, te), (kf, tf), (kt, tt)]).map (·.1)) := by
      have e : (ids.zip (l4.map refDataL) ++ [(kk, tk)] ++ [(ke, te), (kf, tf), (kt, tt)]).map (·.1) = ids ++ [kk] ++ [ke, kf, kt] := by
        rw [List.map_append, List.map_append, List.map_fst_zip (Nat.le_of_eq hz)]
        rfl
      rw [e]
      exact IdsAt.ofRow (by simp only [List.length_append, List.length_cons, List.length_nil, hi]; exact hr) (fun e => by simp at e)
    have e2 : (ids.zip (l4.map refDataL) ++ [(kk, tk)] ++ [(ke, te), (kf, tf), (kt, tt)]).map (·.2) = listL20 l4 tk false [] te tf tt := by
      rw [List.map_append, List.map_append, List.map_snd_zip (Nat.le_of_eq hz.symm)]
      simp [listL20]
    rw [← e2]
    refine taList t9 (by omega) _ hI (by simp [hi, hl]) fun q hq => ?_
    simp only [List.mem_append, List.mem_cons, List.not_mem_nil, or_false] at hq
    rcases hq with (hq | rfl) | rfl | rfl | rfl
    · exact List.mem_append_left _ (zin q hq)
    · exact List.mem_append_right _ mk
    · exact List.mem_append_right _ me
    · exact List.mem_append_right _ mf
    · exact List.mem_append_right _ mt
  · have hz5 : ids5.length = (l5.map refDataL).length := by simp [h5, g5]
    have zin5 : ∀ q ∈ ids5.zip (l5.map refDataL), q ∈ dataP l5 ids5 := fun q hq => by unfold dataP; rw [List.mem_reverse]; exact hq
    have hI : IdsAt W9 v ((ids.zip (l4.map refDataL) ++ [(kk, tk)] ++ ids5.zip (l5.map refDataL) ++ [(ke, te), (kf, tf), (kt, tt)]).map (·.1)) := by
      have e : (ids.zip (l4.map refDataL) ++ [(kk, tk)] ++ ids5.zip (l5.map refDataL) ++ [(ke, te), (kf, tf), (kt, tt)]).map (·.1) = ids ++ [kk] ++ ids5 ++ [ke, kf, kt] := by
        rw [List.map_append, List.map_append, List.map_append, List.map_fst_zip (Nat.le_of_eq hz), List.map_fst_zip (Nat.le_of_eq hz5)]
        rfl
      rw [e]
      exact IdsAt.ofRow (by simp only [List.length_append, List.length_cons, List.length_nil, hi, h5]; exact hr) (fun e => by simp at e)
    have e2 : (ids.zip (l4.map refDataL) ++ [(kk, tk)] ++ ids5.zip (l5.map refDataL) ++ [(ke, te), (kf, tf), (kt, tt)]).map (·.2) = listL20 l4 tk true l5 te tf tt := by
      rw [List.map_append, List.map_append, List.map_append, List.map_snd_zip (Nat.le_of_eq hz.symm), List.map_snd_zip (Nat.le_of_eq hz5.symm)]
      simp [listL20]
    rw [← e2]
    refine taList t9 (by omega) _ hI (by simp [hi, hl, h5, g5]) fun q hq => ?_
    simp only [List.mem_append, List.mem_cons, List.not_mem_nil, or_false] at hq
    rcases hq with ((hq | rfl) | hq) | rfl | rfl | rfl
    · exact List.mem_append_right _ (List.mem_append_left _ (zin q hq))
    · exact List.mem_append_right _ (List.mem_append_right _ mk)
    · exact List.mem_append_left _ (zin5 q hq)
    · exact List.mem_append_right _ (List.mem_append_right _ me)
    · exact List.mem_append_right _ (List.mem_append_right _ mf)
    · exact List.mem_append_right _ (List.mem_append_right _ mt)
theorem LCut.mk {W1 W' : World} {l4 : List (List UInt8)} {kk : Int} {ids : List Int} {g c : Nat} (h1 : ids.length = 4) (h2 : W'.ownsRow W1.heap.size 36 1 (.slice (some ⟨g, 0, none⟩) 5 c) 5 (idCells ids ++ [.int .i64 kk])) (h3 : Ta B w0 A (dataP l4 ids ++ P) (n + 4) W') (h4 : Kept W1 W') : LCut B w0 A n P W1 l4 kk (.slice (some ⟨g, 0, none⟩) 5 c) W' :=
  ⟨ids, g, c, rfl, h1, by rw [idCells_snoc]; exact h2, h3, h4⟩
set_option maxHeartbeats 8000000 in
set_option maxRecDepth 100000 in
theorem xList_any (h : Ta B w0 A P n W) (hn : n ≤ 900) (v0 v1 v2 v3 : List UInt8) (hv : v0.length ≤ 10000 ∧ v1.length ≤ 10000 ∧ v2.length ≤ 10000 ∧ v3.length ≤ 10000) (asks : Bool) (kk ke kf kt : Int) (a0 a1 a2 : Nat) (h0 : a0 < 4294967296) (h1 : a1 < 4294967296) (h2 : a2 < 4294967296) (gp gg : List UInt8) (hp : gp.length ≤ 10000) (hg : gg.length ≤ 10000) {tk te tf tt : List UInt8} (mk : (kk, tk) ∈ P) (me : (ke, te) ∈ P) (mf : (kf, tf) ∈ P) (mt : (kt, tt) ∈ P) :
    Calls Tryz.prog 12 #[.pointer (some ⟨A, 0, none⟩), .agg #[.string (bs v0), .string (bs v1), .string (bs v2), .string (bs v3), .int .i64 kk, .bool asks, .int .u32 (a0 : Int), .int .u32 (a1 : Int), .int .u32 (a2 : Int), .string (bs gp), .string (bs gg), .int .i64 ke, .int .i64 kf, .int .i64 kt]] W (TaPost B w0 A P (n + 10) W (refListL (listL20 [v0, v1, v2, v3] tk asks (askL a0 a1 a2 gp gg) te tf tt))) := by
  obtain ⟨WP, hWP⟩ : ∃ WP, Hid (WP = W.alloc (.cells #[.string (bs v0), .string (bs v1), .string (bs v2), .string (bs v3), .int .i64 kk, .bool asks, .int .u32 (a0 : Int), .int .u32 (a1 : Int), .int .u32 (a2 : Int), .string (bs gp), .string (bs gg), .int .i64 ke, .int .i64 kf, .int .i64 kt] 38)) := ⟨_, Lib.hid rfl⟩
  have bP : Below W.heap.size W WP := by rw [hWP.out]; exact (Below.refl _ _).alloc (Nat.le_refl _) _
  have hBP : Holds WP W.heap.size 38 #[.string (bs v0), .string (bs v1), .string (bs v2), .string (bs v3), .int .i64 kk, .bool asks, .int .u32 (a0 : Int), .int .u32 (a1 : Int), .int .u32 (a2 : Int), .string (bs gp), .string (bs gg), .int .i64 ke, .int .i64 kf, .int .i64 kt] := by rw [hWP.out]; exact Holds.new W _ _
  have hAll : Calls Tryz.prog 26 #[.pointer (some ⟨A, 0, none⟩), .slice (some ⟨WP.heap.size, 0, none⟩) 4 4] (WP.alloc (.cells #[.int .i64 kk, .int .i64 ke, .int .i64 kf, .int .i64 kt] 36)) fun e w' => e = .returned (.bool (!([(kk, tk), (ke, te), (kf, tf), (kt, tt)] : List (Int × List UInt8)).any (·.2.isEmpty))) ∧ Below WP.heap.size WP w' := by
    have bq : Below WP.heap.size WP (WP.alloc (.cells #[.int .i64 kk, .int .i64 ke, .int .i64 kf, .int .i64 kt] 36)) := (Below.refl _ _).alloc (Nat.le_refl _) _
    refine (xHasAll_any (h.below (bP.trans (bq.mono bP.size))) (Q := [(kk, tk), (ke, te), (kf, tf), (kt, tt)]) (ids_new20 WP [kk, ke, kf, kt] 36) (by simp) (fun q hq => by
      simp only [List.mem_cons, List.not_mem_nil, or_false] at hq
      rcases hq with rfl | rfl | rfl | rfl
      · exact mk
      · exact me
      · exact mf
      · exact mt)).mono fun e w' ⟨h5, h6⟩ => ⟨h5, bq.trans (h6.mono bq.size)⟩
  have y4 := hBP.cell 4
  have y11 := hBP.cell 11
  have y12 := hBP.cell 12
  have y13 := hBP.cell 13
  by_cases hne : tk ≠ [] ∧ te ≠ [] ∧ tf ≠ [] ∧ tt ≠ []
  case neg =>
    have hno : refListL (listL20 [v0, v1, v2, v3] tk asks (askL a0 a1 a2 gp gg) te tf tt) = [] := by
      unfold refListL
      rw [if_neg]
      rintro ⟨_, h2, _⟩
      refine hne ⟨h2 tk ?_, h2 te ?_, h2 tf ?_, h2 tt ?_⟩ <;> simp [listL20]
    have hr : (!([(kk, tk), (ke, te), (kf, tf), (kt, tt)] : List (Int × List UInt8)).any (·.2.isEmpty)) = false := by
      rw [Bool.not_eq_false', List.any_eq_true]
      by_cases e1 : tk = []
      · exact ⟨(kk, tk), by simp, by rw [e1]; rfl⟩
      · by_cases e2 : te = []
        · exact ⟨(ke, te), by simp, by rw [e2]; rfl⟩
        · by_cases e3 : tf = []
          · exact ⟨(kf, tf), by simp, by rw [e3]; rfl⟩
          · by_cases e4 : tt = []
            · exact ⟨(kt, tt), by simp, by rw [e4]; rfl⟩
            · exact absurd ⟨e1, e2, e3, e4⟩ hne
    rw [hr] at hAll
    have HAll := Lib.hid hAll
    have HT : Hid (∀ W1, Below W.heap.size W W1 → TaPost B w0 A P (n + 10) W (refListL (listL20 [v0, v1, v2, v3] tk asks (askL a0 a1 a2 gp gg) te tf tt)) (.returned (.int .i64 (-1))) W1) := fun W1 hb => by
      rw [hno]
      exact ⟨-1, rfl, ((h.below hb).mono (by omega) fun p hp => hp).cons (.inr rfl), Kept.ofBelow hb⟩
    have HBP := Lib.hid bP
    clear h hAll hr hno hne bP hBP hv h0 h1 h2 hp hg mk me mf mt
    go_enter Tryz.func12, Tryz.ntmps12
    go_upto_region 1 with fail
    rw [← hWP.out]
    go_wp2_with (go_at_call 26; (with_reducible refine HAll.out.mono ?_); rintro e W1 ⟨rfl, b1p⟩)
    go_ret
    exact HT.out _ (HBP.out.trans (b1p.mono HBP.out.size))
  have hr : (!([(kk, tk), (ke, te), (kf, tf), (kt, tt)] : List (Int × List UInt8)).any (·.2.isEmpty)) = true := by
    obtain ⟨e1, e2, e3, e4⟩ := hne
    cases tk <;> cases te <;> cases tf <;> cases tt <;> simp_all
  rw [hr] at hAll
  have HAll := Lib.hid hAll
  clear hAll hr hne
  go_enter Tryz.func12, Tryz.ntmps12
  go_upto_region 1 with fail
  rw [← hWP.out]
  go_upto_region 4 with (go_at_call 26; (with_reducible refine HAll.out.mono ?_); rintro e W1 ⟨rfl, b1p⟩)
  have b1 : Below W.heap.size W W1 := bP.trans (b1p.mono bP.size)
  have hBx : Holds W1 W.heap.size 38 #[.string (bs v0), .string (bs v1), .string (bs v2), .string (bs v3), .int .i64 kk, .bool asks, .int .u32 (a0 : Int), .int .u32 (a1 : Int), .int .u32 (a2 : Int), .string (bs gp), .string (bs gg), .int .i64 ke, .int .i64 kf, .int .i64 kt] := (b1p.block _ hBP.lt).trans hBP
  clear y4 y11 y12 y13 hBP bP b1p
  obtain ⟨j0, hj, hy0, hy1, hy2⟩ := info_parts info_id
  have HC : Hid (∀ W', Kept W1 W' → W'.cell? ⟨W.heap.size, 0, none⟩ = some (.string (bs v0)) ∧ W'.cell? ⟨W.heap.size, 1, none⟩ = some (.string (bs v1)) ∧ W'.cell? ⟨W.heap.size, 2, none⟩ = some (.string (bs v2)) ∧ W'.cell? ⟨W.heap.size, 3, none⟩ = some (.string (bs v3)) ∧ W'.cell? ⟨W.heap.size, 4, none⟩ = some (.int .i64 kk)) := fun W' hb => by
    have h := hb.hold _ _ _ (by decide) (by decide) hBx
    exact ⟨h.cell 0, h.cell 1, h.cell 2, h.cell 3, h.cell 4⟩
  have HD : Hid (∀ (g : Nat) (X : World), Below W1.heap.size W1 X → Holds X g 9 #[.string (bs v0), .string (bs v1), .string (bs v2), .string (bs v3)] → Calls Tryz.prog 27 #[.pointer (some ⟨A, 0, none⟩), .slice (some ⟨g, 0, none⟩) 4 4] X fun e w' => ∃ (ids : List Int) (vr : Value), e = .returned vr ∧ ids.length = 4 ∧ w'.ownsRow W1.heap.size 36 1 vr 4 (idCells ids) ∧ Ta B w0 A (dataP [v0, v1, v2, v3] ids ++ P) (n + 4) w' ∧ Kept X w') := fun g X hb hX => by
    have b2 : Below W.heap.size W X := b1.trans (hb.mono b1.size)
    refine (xData_any (h.below b2) (by omega) (l := [v0, v1, v2, v3]) hX (by simp) (fun x hx => by
      simp only [List.mem_cons, List.not_mem_nil, or_false] at hx
      rcases hx with rfl | rfl | rfl | rfl <;> omega)).mono fun e w' ⟨ids, vr, e1, e2, e3, _, e5, e6⟩ => ⟨ids, vr, e1, e2, ?_, e5, e6⟩
    have : ids.length = 4 := e2
    rw [this] at e3
    exact owns_lower e3 hb.size
  have dA : Below W1.heap.size W1 (W1.alloc (.cells #[.string (bs v0), .string (bs v1), .string (bs v2), .string (bs v3)] 9)).drew := ((Below.refl _ _).alloc (Nat.le_refl _) _).drew
  have hA : Holds (W1.alloc (.cells #[.string (bs v0), .string (bs v1), .string (bs v2), .string (bs v3)] 9)).drew W1.heap.size 9 #[.string (bs v0), .string (bs v1), .string (bs v2), .string (bs v3)] := Holds.new W1 _ _
  have dB : Below W1.heap.size W1 ((W1.alloc (.cells #[.int .i64 kk] 36)).alloc (.cells #[.string (bs v0), .string (bs v1), .string (bs v2), .string (bs v3)] 9)).drew := (((Below.refl _ _).alloc (Nat.le_refl _) _).alloc (by simp) _).drew
  have hB : Holds ((W1.alloc (.cells #[.int .i64 kk] 36)).alloc (.cells #[.string (bs v0), .string (bs v1), .string (bs v2), .string (bs v3)] 9)).drew (W1.heap.size + 1) 9 #[.string (bs v0), .string (bs v1), .string (bs v2), .string (bs v3)] := by
    have := Holds.new (W1.alloc (.cells #[.int .i64 kk] 36)) 9 #[.string (bs v0), .string (bs v1), .string (bs v2), .string (bs v3)]
    rwa [World.size_alloc] at this
  have hBk : Holds ((W1.alloc (.cells #[.int .i64 kk] 36)).alloc (.cells #[.string (bs v0), .string (bs v1), .string (bs v2), .string (bs v3)] 9)).drew W1.heap.size 36 #[.int .i64 kk] := (Holds.new W1 36 #[.int .i64 kk]).moves (S := nobody) (((Moves.refl nobody _).alloc _).drew) (fun h => h)
  have dC : Below W1.heap.size W1 ((W1.alloc (.cells #[.string (bs v0), .string (bs v1), .string (bs v2), .string (bs v3)] 9)).alloc (.cells #[.int .i64 kk] 36)).drew := (((Below.refl _ _).alloc (Nat.le_refl _) _).alloc (by simp) _).drew
  have hC : Holds ((W1.alloc (.cells #[.string (bs v0), .string (bs v1), .string (bs v2), .string (bs v3)] 9)).alloc (.cells #[.int .i64 kk] 36)).drew W1.heap.size 9 #[.string (bs v0), .string (bs v1), .string (bs v2), .string (bs v3)] := (Holds.new W1 9 #[.string (bs v0), .string (bs v1), .string (bs v2), .string (bs v3)]).moves (S := nobody) (((Moves.refl nobody _).alloc _).drew) (fun h => h)
  have hCk : Holds ((W1.alloc (.cells #[.string (bs v0), .string (bs v1), .string (bs v2), .string (bs v3)] 9)).alloc (.cells #[.int .i64 kk] 36)).drew (W1.heap.size + 1) 36 #[.int .i64 kk] := by
    have := Holds.new (W1.alloc (.cells #[.string (bs v0), .string (bs v1), .string (bs v2), .string (bs v3)] 9)) 36 #[.int .i64 kk]
    rwa [World.size_alloc] at this
  have dD : Below W1.heap.size W1 W1.drew := (Below.refl _ _).drew
  have dE : Below W1.heap.size W1 (W1.alloc (.cells #[.int .i64 kk] 36)).drew := ((Below.refl _ _).alloc (Nat.le_refl _) _).drew
  have hFinal := fun (ids : List Int) (hi : ids.length = 4) => list_final (A := A) (B := B) (n := n) (w0 := w0) (W1 := W1) (by omega) ids [v0, v1, v2, v3] hi rfl mk me mf mt
  have hReq := fun (ids : List Int) (W9 : World) (t9 : Ta B w0 A (dataP [v0, v1, v2, v3] ids ++ P) (n + 4) W9) => xRequest_any t9 (by omega) (bs v0) (bs v1) (bs v2) (bs v3) asks kk ke kf kt a0 a1 a2 h0 h1 h2 gp gg hp hg
  clear h0 h1 h2 hp hg
  have hB1 := Lib.hid b1
  have hBW : B ≤ W.heap.size := Nat.le_of_lt h.lt
  have hBW1 : B ≤ W1.heap.size := Nat.le_trans hBW b1.size
  clear h b1 hv
  generalize bs v0 = S0 at *
  generalize bs v1 = S1 at *
  generalize bs v2 = S2 at *
  generalize bs v3 = S3 at *
  generalize bs gp = XP at *
  generalize bs gg = XG at *
  have hKA := Lib.hid (Kept.ofBelow dA)
  obtain ⟨y0, y1, y2, y3, y4⟩ := HC.out _ (Kept.ofBelow dD)
  obtain ⟨z0, z1, z2, z3, z4⟩ := HC.out _ (Kept.ofBelow dA)
  obtain ⟨u0, u1, u2, u3, u4⟩ := HC.out _ (Kept.ofBelow dE)
  go_cut [5] from 18 to 32 (fun v wc => LCut B w0 A n P W1 [v0, v1, v2, v3] kk v wc)
  case first =>
    go_region_held3 (fun w' => w'.cell? ⟨W.heap.size, 0, none⟩ = some (.string S0) ∧ w'.cell? ⟨W.heap.size, 1, none⟩ = some (.string S1) ∧ w'.cell? ⟨W.heap.size, 2, none⟩ = some (.string S2) ∧ w'.cell? ⟨W.heap.size, 3, none⟩ = some (.string S3) ∧ w'.cell? ⟨W.heap.size, 4, none⟩ = some (.int .i64 kk))
      (first | with_reducible exact HC.out _ (Kept.ofBelow dD) | with_reducible exact HC.out _ (Kept.ofBelow dA) | with_reducible exact HC.out _ (Kept.ofBelow dB) | with_reducible exact HC.out _ (Kept.ofBelow dC) | with_reducible exact HC.out _ (Kept.ofBelow dE) | with_reducible exact HC.out _ kW | with_reducible exact HC.out _ kX | go_keep)
      (first
        | (go_at_call 27; (with_reducible refine (HD.out _ _ dA hA).mono ?_); rintro e w9 ⟨ids, vr, rfl, e2, e3, e4, e5⟩; have kW := (Kept.ofBelow dA).trans e5)
        | (go_at_call 27; (with_reducible refine (HD.out _ _ dB hB).mono ?_); rintro e w9 ⟨ids, vr, rfl, e2, e3, e4, e5⟩; have kW := (Kept.ofBelow dB).trans e5; have hkk := e5.hold _ _ _ (by decide) (by decide) hBk; have hkn := one_news hkk)
        | (go_at_call 27; (with_reducible refine (HD.out _ _ dC hC).mono ?_); rintro e w9 ⟨ids, vr, rfl, e2, e3, e4, e5⟩; have kW := (Kept.ofBelow dC).trans e5; have hkk := e5.hold _ _ _ (by decide) (by decide) hCk; have hkn := one_news hkk)
        | (refine step_append_lies _ rfl (.tmp 28) (.tmp 31) 44 rfl W1.heap.size 36 j0 _ 1 8 Tryz.underlying44 hj hy0 hy1 hy2 rfl (by decide) vr 4 (idCells ids) rfl (e3.alloc _) ⟨w9.heap.size, 0, none⟩ 1 1 [.int .i64 kk] rfl rfl (cell_one_new w9 _ _) (id_one kk) (by decide) (by unfold maxLen; omega) (by omega) (by first | exact kW.size | (simp; exact Nat.le_succ_of_le kW.size)) _ rfl ?_; intro g c4 w10 hrow10 hg10 hat10 hlt10; have mv := ((Moves.refl (fun i => vr.ownBlock = some i) w9).alloc _).grown hg10 (fun _ hi => .inl hi); have t10 := e4.pastRow e3 hBW1 mv; have kX := kW.pastRow e3 (Nat.le_refl _) mv)
        | (refine step_append_lies _ rfl (.tmp 28) (.tmp 31) 44 rfl W1.heap.size 36 j0 _ 1 8 Tryz.underlying44 hj hy0 hy1 hy2 rfl (by decide) vr 4 (idCells ids) rfl e3 ⟨W1.heap.size, 0, none⟩ 1 1 [.int .i64 kk] rfl rfl hkn (id_one kk) (by decide) (by unfold maxLen; omega) (by omega) (by first | exact kW.size | (simp; exact Nat.le_succ_of_le kW.size)) _ rfl ?_; intro g c4 w10 hrow10 hg10 hat10 hlt10; have mv := (Moves.refl (fun i => vr.ownBlock = some i) w9).grown hg10 (fun _ hi => .inl hi); have t10 := e4.pastRow e3 hBW1 mv; have kX := kW.pastRow e3 (Nat.le_refl _) mv)
        | (refine step_append_lies _ rfl (.tmp 28) (.tmp 31) 44 rfl W1.heap.size 36 j0 _ 1 8 Tryz.underlying44 hj hy0 hy1 hy2 rfl (by decide) vr 4 (idCells ids) rfl e3 ⟨(W1.heap.size + 1), 0, none⟩ 1 1 [.int .i64 kk] rfl rfl hkn (id_one kk) (by decide) (by unfold maxLen; omega) (by omega) (by first | exact kW.size | (simp; exact Nat.le_succ_of_le kW.size)) _ rfl ?_; intro g c4 w10 hrow10 hg10 hat10 hlt10; have mv := (Moves.refl (fun i => vr.ownBlock = some i) w9).grown hg10 (fun _ hi => .inl hi); have t10 := e4.pastRow e3 hBW1 mv; have kX := kW.pastRow e3 (Nat.le_refl _) mv))
    all_goals
      go_wp2_with fail
      go_meet
      case rel => exact LCut.mk e2 hrow10 t10 kX
  case rest =>
    obtain ⟨ids, g, c, rfl, hi4, hrow, ht, hk⟩ := hcut
    have hBc := hk.hold _ _ _ (by decide) (by decide) hBx
    have hFin := hFinal ids hi4
    have hReq2 := hReq ids
    clear hReq
    have hBx1 := Lib.hid hBx
    clear HC HD dA hA dB hB hBk dC hC hCk dD dE hKA y0 y1 y2 y3 y4 z0 z1 z2 z3 z4 u0 u1 u2 u3 u4 hBx
    cases asks with
    | false =>
      have y5 := hBc.cell 5
      have y11 := hBc.cell 11
      have y12 := hBc.cell 12
      have y13 := hBc.cell 13
      have hsz := hk.size
      have HL : Hid (∀ (W9 : World) (v : Value), Ta B w0 A (dataP [v0, v1, v2, v3] ids ++ P) (n + 4) W9 → W9.ownsRow W1.heap.size 36 1 v 8 (idCells (ids ++ [kk] ++ [ke, kf, kt])) → Calls Tryz.prog 29 #[.pointer (some ⟨A, 0, none⟩), v] W9 (TaPost B w0 A (dataP [v0, v1, v2, v3] ids ++ P) (n + 5) W9 (refListL (listL20 [v0, v1, v2, v3] tk false [] te tf tt)))) := hFin.1
      have HT := Lib.hid ht
      have HK := Lib.hid hk
      have HB := Lib.hid hBc
      clear ht hk hBc hFin hFinal hReq2
      go_wp2_with (first
        | (go_at_call 29; (with_reducible refine (HL.out _ _ t9 hrow9).mono ?_); rintro e w8 ⟨i, rfl, t8, k8⟩)
        | (at_builtin; refine wpList_append_own _ rfl _ _ 44 rfl W1.heap.size 36 j0 _ 1 8 Tryz.underlying44 hj hy0 hy1 hy2 rfl (by decide) _ _ _ rfl (hrow.alloc _) ⟨wc.heap.size, 0, none⟩ 3 3 [.int .i64 ke, .int .i64 kf, .int .i64 kt] rfl rfl (three_news (Holds.new wc 36 _)) (three_one ke kf kt) (by unfold maxLen; omega) (by omega) (by simp; omega) ?_; intro v9 w9 hrow9' hg9 hnn9; have mv := ((Moves.refl (fun i => (Value.slice (some ⟨g, 0, none⟩) 5 c).ownBlock = some i) wc).alloc (.cells #[.int .i64 ke, .int .i64 kf, .int .i64 kt] 36)).grown hg9 (fun _ hi => .inl hi); have t9 := HT.out.pastRow hrow hBW1 mv; have k9 := HK.out.pastRow hrow (Nat.le_refl _) mv; have hrow9 : w9.ownsRow W1.heap.size 36 1 v9 8 (idCells (ids ++ [kk] ++ [ke, kf, kt])) := (by rw [idCells_app]; exact hrow9'); obtain ⟨p9, n9, c9, rfl⟩ := row_slice hrow9)
        | go_in)
      go_ret
      exact ⟨i, rfl, t8.mono (by omega) (fun q hq => by
        rcases List.mem_cons.1 hq with rfl | hq
        · exact .head _
        · exact .tail _ (List.mem_append_right _ hq)), (Kept.ofBelow hB1.out).trans (k9.trans k8)⟩
    | true =>
      have y5 := hBc.cell 5
      have hsz := hk.size
      have HL : Hid (∀ (ids5 : List Int) (W9 : World) (v : Value), ids5.length = 5 → Ta B w0 A (dataP (askL a0 a1 a2 gp gg) ids5 ++ (dataP [v0, v1, v2, v3] ids ++ P)) (n + 9) W9 → W9.ownsRow W1.heap.size 36 1 v 13 (idCells (ids ++ [kk] ++ ids5 ++ [ke, kf, kt])) → Calls Tryz.prog 29 #[.pointer (some ⟨A, 0, none⟩), v] W9 (TaPost B w0 A (dataP (askL a0 a1 a2 gp gg) ids5 ++ (dataP [v0, v1, v2, v3] ids ++ P)) (n + 10) W9 (refListL (listL20 [v0, v1, v2, v3] tk true (askL a0 a1 a2 gp gg) te tf tt)))) := fun ids5 W9 v i5 t9 hr => hFin.2 ids5 (askL a0 a1 a2 gp gg) W9 v i5 rfl t9 hr
      have HQ := Lib.hid (hReq2 wc ht)
      have HT := Lib.hid ht
      have HK := Lib.hid hk
      have HB := Lib.hid hBc
      clear ht hk hBc hFin hFinal hReq2
      go_upto_region 6 with (first
        | (go_at_call 28; (with_reducible refine HQ.out.mono ?_); rintro e w6 ⟨ids5, vr5, rfl, i5, row5, t6, k6⟩; obtain ⟨g5, c5, rfl⟩ := row_some row5 (by decide); have hrow6 := owns_kept hrow k6 (by decide) (by decide); have K6 := HK.out.trans k6; have hsz6 := K6.size)
        | (at_builtin; refine wpList_append_own _ rfl _ _ 44 rfl W1.heap.size 36 j0 _ 1 8 Tryz.underlying44 hj hy0 hy1 hy2 rfl (by decide) _ _ _ rfl hrow6 ⟨g5, 0, none⟩ 5 c5 (idCells ids5) rfl (by simp [idCells, i5]) (row5.cells rfl) (ids_one ids5) (by unfold maxLen; omega) (by omega) (by omega) ?_; intro v7 w7 hrow7' hg7 hnn7; have mv := (Moves.refl (fun i => (Value.slice (some ⟨g, 0, none⟩) 5 c).ownBlock = some i) w6).grown hg7 (fun _ hi => .inl hi); have t7 := t6.pastRow hrow6 hBW1 mv; have k7 := K6.pastRow hrow6 (Nat.le_refl _) mv; have hrow7 : w7.ownsRow W1.heap.size 36 1 v7 10 (idCells (ids ++ [kk] ++ ids5)) := (by rw [idCells_app]; exact hrow7'); obtain ⟨g7, c7, rfl⟩ := row_some hrow7 (by decide))
        | (refine wpList_load_row rfl 38 _ rfl W.heap.size rfl 38 _ (0, 0) _ HB.out Tryz.underlying38 rfl sizeXParts ?_)
        | go_in)
      have hB7 := k7.hold _ _ _ (by decide) (by decide) hBx1.out
      have y11 := hB7.cell 11
      have y12 := hB7.cell 12
      have y13 := hB7.cell 13
      have hsz7 := k7.size
      have HB7 := Lib.hid hB7
      have T7 := Lib.hid t7
      have K7 := Lib.hid k7
      clear t6 t7 k6 k7 row5 hrow6 K6 hB7 mv hrow7' hg7 hnn7
      go_wp2_with (first
        | (go_at_call 29; (with_reducible refine (HL.out ids5 _ _ i5 t9 hrow9).mono ?_); rintro e w8 ⟨i, rfl, t8, k8⟩)
        | (at_builtin; refine wpList_append_own _ rfl _ _ 44 rfl W1.heap.size 36 j0 _ 1 8 Tryz.underlying44 hj hy0 hy1 hy2 rfl (by decide) _ _ _ rfl (hrow7.alloc _) ⟨w7.heap.size, 0, none⟩ 3 3 [.int .i64 ke, .int .i64 kf, .int .i64 kt] rfl rfl (three_news (Holds.new w7 36 _)) (three_one ke kf kt) (by unfold maxLen; omega) (by omega) (by simp; omega) ?_; intro v9 w9 hrow9' hg9 hnn9; have mv9 := ((Moves.refl (fun i => (Value.slice (some ⟨g7, 0, none⟩) 10 c7).ownBlock = some i) w7).alloc (.cells #[.int .i64 ke, .int .i64 kf, .int .i64 kt] 36)).grown hg9 (fun _ hi => .inl hi); have t9 := T7.out.pastRow hrow7 hBW1 mv9; have k9 := K7.out.pastRow hrow7 (Nat.le_refl _) mv9; have hrow9 : w9.ownsRow W1.heap.size 36 1 v9 13 (idCells (ids ++ [kk] ++ ids5 ++ [ke, kf, kt])) := (by rw [idCells_app]; exact hrow9'); obtain ⟨p9, n9, c9, rfl⟩ := row_slice hrow9)
        | go_in)
      go_ret
      exact ⟨i, rfl, t8.mono (by omega) (fun q hq => by
        rcases List.mem_cons.1 hq with rfl | hq
        · exact .head _
        · exact .tail _ (List.mem_append_right _ (List.mem_append_right _ hq))), (Kept.ofBelow hB1.out).trans (k9.trans k8)⟩
end
end Go.Proofs.YtobhpclemmhpoaaGreatDoor
