/- Part 18 of what the statement wants. -/
import Derived.Laws.Tables
import Derived.Laws.CopyOwn
import Derived.Test.YtgoinpibllomfaaDoorPk15
import Derived.Test.YtgoinpibllomfaaDoorPk17
namespace Go.Proofs.YtgoinpibllomfaaDoor
open Go.RowKit

def plainS25 : List UInt8 := [112, 108, 97, 105, 110]
def edL : List UInt8 := [115, 115, 104, 45, 101, 100, 50, 53, 53, 49, 57]
def annS25 : List UInt8 := [97, 110, 110]
/-- The texts, lists and keys of a default configuration. -/
def plainD (server : Bool) : CfL := if server then ⟨plainS25, [], [], plainP, [edL], [⟨annS25, 8⟩], []⟩ else ⟨plainS25, [], annS25, plainP, [edL], [], [8]⟩
/-- Its numbers. -/
structure PlainV (server : Bool) (host : Int) (c : CfV) : Prop where
  sv : c.sv = server
  ow : c.ow = if server then host else 0
  li : c.li = if server then 3 else 0
  pe : c.pe = if server then 0 else host
  ex : c.ex = !server
  gu : c.gu = false
  w0 : c.w0 = if server then 0 else 2048
  w1 : c.w1 = if server then 0 else 3072
  w2 : c.w2 = if server then 0 else 8192
theorem texts_one {w : World} {b : Nat} {x : List UInt8} (h : Holds w b 9 #[.string (bs x)]) : TextsAt w (.slice (some ⟨b, 0, none⟩) 1 1) ([x].map bs) := ⟨_, _, rfl, fun _ => ⟨_, 0, rfl, h.lt, fun k y hk => by
  match k, hk with
  | 0, hk => obtain rfl := (Option.some.inj hk).symm; exact h.cell 0
  | k + 1, hk => simp at hk⟩⟩
theorem grants_one {w : World} {b : Nat} {x : List UInt8} {z : Int} (h : Holds w b 62 #[.string (bs x), .int .i64 z]) : GrantsAt w (.slice (some ⟨b, 0, none⟩) 1 1) [⟨x, z⟩] := ⟨_, _, rfl, fun _ => ⟨_, 0, rfl, h.lt, fun k y hk => by
  match k, hk with
  | 0, hk => obtain rfl := (Option.some.inj hk).symm; exact ⟨h.cell 0, h.cell 1⟩
  | k + 1, hk => simp at hk⟩⟩

theorem below3 (w : World) (o1 o2 o3 : Obj) : Below w.heap.size w (((w.alloc o1).alloc o2).alloc o3) := (((Below.refl _ w).alloc (Nat.le_refl _) o1).alloc (by simp only [World.size_alloc]; omega) o2).alloc (by simp only [World.size_alloc]; omega) o3
/-- A whole store into a block that is new. -/
theorem alloc_setRow (w : World) (Z R : Array Value) (t : TypeId) {N : Nat} (hN : N = w.heap.size) : (w.alloc (.cells Z t)).setRow N R = w.alloc (.cells R t) := by
  subst hN
  have e : ((w.heap.push (.cells Z t)).modify w.heap.size fun
      | .cells _ elem frozen => .cells R elem frozen
      | o => o) = w.heap.push (.cells R t) := by
    apply Array.ext_getElem?
    intro i
    rw [Array.getElem?_modify]
    by_cases h : w.heap.size = i
    · subst h
      simp
    · rw [if_neg h, Array.getElem?_push, Array.getElem?_push, if_neg (fun e => h e.symm), if_neg (fun e => h e.symm)]
  exact congrArg (fun h => ({ w with heap := h } : World)) e
theorem new_row (w : World) (Z : Array Value) (t : TypeId) {N : Nat} (hN : N = w.heap.size) : (w.alloc (.cells Z t)).heap[N]? = some (.cells Z t (0, 0)) := by
  subst hN
  exact heap_alloc_new w _
theorem mid_row (w : World) (o1 o3 : Obj) (R : Array Value) (t : TypeId) : (((w.alloc o1).alloc (.cells R t)).alloc o3).heap[w.heap.size + 1]? = some (.cells R t (0, 0)) := by
  have h := heap_alloc_new (w.alloc o1) (.cells R t)
  rw [World.size_alloc] at h
  exact ((((Below.refl _ ((w.alloc o1).alloc (.cells R t))).alloc (Nat.le_refl _) o3).block (w.heap.size + 1) (by simp only [World.size_alloc]; omega)).trans h)
theorem wpList_store_new {P : Program} {ops : Array Oper} {rest : List Oper} {o : Oper} {a : Act} {w : World} {Q : Exit → Act → World → Prop} (hgd : o.guard = none) (ty : TypeId) (x y : Operand) (ho : o.op = .store ty x y)
    (N : Nat) (Z R : Array Value) (t : TypeId) (hx : a.eval x = .pointer (some ⟨N, 0, none⟩)) (hy : a.eval y = .agg R) (hN : N = w.heap.size) (hi : (P.info? ty).map (·.size) = some R.size)
    (hold : Z.size = R.size) (h1 : R.all (·.oneCell') = true) (h : wpList P ops Q rest (a.put o.dst undef) (w.alloc (.cells R t))) : wpList P ops Q (o :: rest) a (w.alloc (.cells Z t)) :=
  wpList_store_row hgd ty x y ho N R hx hy t Z (new_row w Z t hN) hi hold h1 (by rw [alloc_setRow w Z R t hN]; exact h)
theorem wpList_build_as {P : Program} {ops : Array Oper} {rest : List Oper} {o : Oper} {a : Act} {w : World} {Q : Exit → Act → World → Prop} (hg : o.guard = none) (t : TypeId) (parts : Array (Nat × Operand)) (ho : o.op = .build t parts) (row : Array Value)
    (hf : P.built t (parts.map fun (i, x) => (i, a.eval x)).toList = some row)
    (h : wpList P ops Q rest (a.put o.dst (.agg row)) w) : wpList P ops Q (o :: rest) a w :=
  wpList_build hg t parts ho (by rw [hf]; rfl) (by rw [hf]; exact h)
theorem sizeZ : (Tryd.prog.info? 51).map (·.size) = some 23 := by kernel_rfl
theorem texts_row25 {w : World} {v : Value} {l : List ByteArray} {g : Nat} (h : TextsAt w v l) (hv : ∀ b n c, v = .slice (some ⟨b, 0, none⟩) n c → b ≠ g) (hz : ∀ b off n c, v = .slice (some ⟨b, off, none⟩) n c → off = 0) (R : Array Value) : TextsAt (w.setRow g R) v l :=
  h.keep (by rw [size_setRow]; exact Nat.le_refl _) fun b off cap i e _ => cell_setRow_other w g R ⟨b, i, none⟩ (by
    have h0 := hz _ _ _ _ e
    subst h0
    exact hv _ _ _ e)
theorem cell_row {w : World} {b g : Nat} {t : TypeId} {cs : Array Value} (h : Holds w b t cs) (hne : b ≠ g) (R : Array Value) : Holds (w.setRow g R) b t cs := (setRow_other w g b R hne).trans h
theorem first_row (w : World) (o1 o2 o3 : Obj) : (((w.alloc o1).alloc o2).alloc o3).heap[w.heap.size]? = some o1 :=
  (((Below.refl _ (w.alloc o1)).alloc (Nat.le_refl _) o2).alloc (by simp only [World.size_alloc]; omega) o3).block w.heap.size (by simp only [World.size_alloc]; omega) |>.trans (heap_alloc_new w o1)
theorem last_row (w : World) (o1 o2 o3 : Obj) : (((w.alloc o1).alloc o2).alloc o3).heap[w.heap.size + 1 + 1]? = some o3 := by
  have h := heap_alloc_new ((w.alloc o1).alloc o2) o3
  rwa [World.size_alloc, World.size_alloc] at h
set_option maxHeartbeats 4000000 in
set_option maxRecDepth 100000 in
theorem cfPlain_srv {w : World} (hT : Tab15 w) (host : Int) : Calls Tryd.prog 25 #[.bool true, .int .i64 host] w fun e w' => ∃ c, e = .returned (.agg c.row) ∧ CfAt w' c (plainD true) ∧ PlainV true host c ∧ (∀ k < 8, Room15 (c.u k)) ∧ Below w.heap.size w w' := by
  have HP := Lib.hid (fun (W : World) (hb : Below w.heap.size w W) => pfPlain_new (hT.below hb))
  have HB0 : Hid (Below w.heap.size w (w.alloc (.cells #[.bool false, .string ⟨#[]⟩, .string ⟨#[]⟩, .slice none 0 0, .slice none 0 0, .slice none 0 0, .slice none 0 0, .slice none 0 0, .slice none 0 0, .slice none 0 0, .slice none 0 0, .slice none 0 0, .int .i64 0, .slice none 0 0, .int .i64 0, .int .i64 0, .string ⟨#[]⟩, .slice none 0 0, .bool false, .bool false, .int .u32 0, .int .u32 0, .int .u32 0] 51))) := (Below.refl _ _).alloc (Nat.le_refl _) _
  have HN := Lib.hid (Holds.new w 51 #[.bool false, .string ⟨#[]⟩, .string ⟨#[]⟩, .slice none 0 0, .slice none 0 0, .slice none 0 0, .slice none 0 0, .slice none 0 0, .slice none 0 0, .slice none 0 0, .slice none 0 0, .slice none 0 0, .int .i64 0, .slice none 0 0, .int .i64 0, .int .i64 0, .string ⟨#[]⟩, .slice none 0 0, .bool false, .bool false, .int .u32 0, .int .u32 0, .int .u32 0])
  clear hT
  go_enter Tryd.func25, Tryd.ntmps25
  go_wp2_with (first
    | (refine wpList_build_as rfl 51 _ rfl #[.bool true, .string ⟨#[112, 108, 97, 105, 110]⟩, .string ⟨#[]⟩, .slice (some ⟨b0, 0, none⟩) n0 c0, .slice (some ⟨b1, 0, none⟩) n1 c1, .slice (some ⟨b2, 0, none⟩) n2 c2, .slice (some ⟨b3, 0, none⟩) n3 c3, .slice (some ⟨b4, 0, none⟩) n4 c4, .slice (some ⟨b5, 0, none⟩) n5 c5, .slice (some ⟨b6, 0, none⟩) n6 c6, .slice (some ⟨b7, 0, none⟩) n7 c7, .slice (some ⟨w1.heap.size, 0, none⟩) 1 1, .int .i64 0, .slice none 0 0, .int .i64 0, .int .i64 0, .string ⟨#[]⟩, .slice none 0 0, .bool false, .bool false, .int .u32 0, .int .u32 0, .int .u32 0] (by kernel_rfl) ?_)
    | (refine wpList_store_new rfl 51 _ _ rfl (w1.heap.size + 1) #[.bool false, .string ⟨#[]⟩, .string ⟨#[]⟩, .slice none 0 0, .slice none 0 0, .slice none 0 0, .slice none 0 0, .slice none 0 0, .slice none 0 0, .slice none 0 0, .slice none 0 0, .slice none 0 0, .int .i64 0, .slice none 0 0, .int .i64 0, .int .i64 0, .string ⟨#[]⟩, .slice none 0 0, .bool false, .bool false, .int .u32 0, .int .u32 0, .int .u32 0] _ 51 rfl rfl (by simp only [World.size_alloc]) (by exact sizeZ) (by rfl) (by simp [Value.oneCell']) ?_)
    | (refine wpList_load_row rfl 51 _ rfl (w1.heap.size + 1) rfl 51 _ (0, 0) _ (mid_row w1 _ _ _ _) Tryd.underlying51 rfl (by exact sizeZ) ?_)
    | (refine wpList_store_row rfl 51 _ _ rfl w.heap.size _ rfl rfl 51 _ (hbz _ (below3 w1 _ _ _)) (by exact sizeZ) (by rfl) (by simp [Value.oneCell']) ?_)
    | (go_at_call 26; (with_reducible refine (HP.out _ HB0.out).mono ?_); rintro e w1 ⟨u, rfl, hu, hne, bb1⟩; have hbx : Holds w1 w.heap.size 51 #[.bool false, .string ⟨#[]⟩, .string ⟨#[]⟩, .slice none 0 0, .slice none 0 0, .slice none 0 0, .slice none 0 0, .slice none 0 0, .slice none 0 0, .slice none 0 0, .slice none 0 0, .slice none 0 0, .int .i64 0, .slice none 0 0, .int .i64 0, .int .i64 0, .string ⟨#[]⟩, .slice none 0 0, .bool false, .bool false, .int .u32 0, .int .u32 0, .int .u32 0] := (bb1.block _ HN.out.lt).trans HN.out; obtain ⟨b0, n0, c0, e0, l0⟩ := hne 0 (by omega); obtain ⟨b1, n1, c1, e1, l1⟩ := hne 1 (by omega); obtain ⟨b2, n2, c2, e2, l2⟩ := hne 2 (by omega); obtain ⟨b3, n3, c3, e3, l3⟩ := hne 3 (by omega); obtain ⟨b4, n4, c4, e4, l4⟩ := hne 4 (by omega); obtain ⟨b5, n5, c5, e5, l5⟩ := hne 5 (by omega); obtain ⟨b6, n6, c6, e6, l6⟩ := hne 6 (by omega); obtain ⟨b7, n7, c7, e7, l7⟩ := hne 7 (by omega); have HU := Lib.hid hu; have HE := Lib.hid (And.intro e0 (And.intro e1 (And.intro e2 (And.intro e3 (And.intro e4 (And.intro e5 (And.intro e6 e7))))))); have HL := Lib.hid (And.intro l0 (And.intro l1 (And.intro l2 (And.intro l3 (And.intro l4 (And.intro l5 (And.intro l6 l7))))))); have HBB := Lib.hid bb1; unfold agg8; rw [e0, e1, e2, e3, e4, e5, e6, e7]; clear e0 e1 e2 e3 e4 e5 e6 e7 l0 l1 l2 l3 l4 l5 l6 l7 hu hne; have hbz := fun (W : World) (hb : Below w1.heap.size w1 W) => (hb.block _ hbx.lt).trans hbx))
  have d1 := HB0.out.trans (HBB.out.mono HB0.out.size)
  have hlt1 : w.heap.size < w1.heap.size := Nat.lt_of_lt_of_le (by rw [World.size_alloc]; omega) HBB.out.size
  have y1 := first_row w1 (.cells #[.string ⟨#[115, 115, 104, 45, 101, 100, 50, 53, 53, 49, 57]⟩] 9) (.cells #[.bool true, .string ⟨#[112, 108, 97, 105, 110]⟩, .string ⟨#[]⟩, .slice (some ⟨b0, 0, none⟩) n0 c0, .slice (some ⟨b1, 0, none⟩) n1 c1, .slice (some ⟨b2, 0, none⟩) n2 c2, .slice (some ⟨b3, 0, none⟩) n3 c3, .slice (some ⟨b4, 0, none⟩) n4 c4, .slice (some ⟨b5, 0, none⟩) n5 c5, .slice (some ⟨b6, 0, none⟩) n6 c6, .slice (some ⟨b7, 0, none⟩) n7 c7, .slice (some ⟨w1.heap.size, 0, none⟩) 1 1, .int .i64 host, .slice (some ⟨w1.heap.size + 1 + 1, 0, none⟩) 1 1, .int .i64 3, .int .i64 0, .string ⟨#[]⟩, .slice none 0 0, .bool false, .bool false, .int .u32 0, .int .u32 0, .int .u32 0] 51) (.cells #[.string ⟨#[97, 110, 110]⟩, .int .i64 8] 62)
  have y3 := last_row w1 (.cells #[.string ⟨#[115, 115, 104, 45, 101, 100, 50, 53, 53, 49, 57]⟩] 9) (.cells #[.bool true, .string ⟨#[112, 108, 97, 105, 110]⟩, .string ⟨#[]⟩, .slice (some ⟨b0, 0, none⟩) n0 c0, .slice (some ⟨b1, 0, none⟩) n1 c1, .slice (some ⟨b2, 0, none⟩) n2 c2, .slice (some ⟨b3, 0, none⟩) n3 c3, .slice (some ⟨b4, 0, none⟩) n4 c4, .slice (some ⟨b5, 0, none⟩) n5 c5, .slice (some ⟨b6, 0, none⟩) n6 c6, .slice (some ⟨b7, 0, none⟩) n7 c7, .slice (some ⟨w1.heap.size, 0, none⟩) 1 1, .int .i64 host, .slice (some ⟨w1.heap.size + 1 + 1, 0, none⟩) 1 1, .int .i64 3, .int .i64 0, .string ⟨#[]⟩, .slice none 0 0, .bool false, .bool false, .int .u32 0, .int .u32 0, .int .u32 0] 51) (.cells #[.string ⟨#[97, 110, 110]⟩, .int .i64 8] 62)
  have d3 := below3 w1 (.cells #[.string ⟨#[115, 115, 104, 45, 101, 100, 50, 53, 53, 49, 57]⟩] 9) (.cells #[.bool true, .string ⟨#[112, 108, 97, 105, 110]⟩, .string ⟨#[]⟩, .slice (some ⟨b0, 0, none⟩) n0 c0, .slice (some ⟨b1, 0, none⟩) n1 c1, .slice (some ⟨b2, 0, none⟩) n2 c2, .slice (some ⟨b3, 0, none⟩) n3 c3, .slice (some ⟨b4, 0, none⟩) n4 c4, .slice (some ⟨b5, 0, none⟩) n5 c5, .slice (some ⟨b6, 0, none⟩) n6 c6, .slice (some ⟨b7, 0, none⟩) n7 c7, .slice (some ⟨w1.heap.size, 0, none⟩) 1 1, .int .i64 host, .slice (some ⟨w1.heap.size + 1 + 1, 0, none⟩) 1 1, .int .i64 3, .int .i64 0, .string ⟨#[]⟩, .slice none 0 0, .bool false, .bool false, .int .u32 0, .int .u32 0, .int .u32 0] 51) (.cells #[.string ⟨#[97, 110, 110]⟩, .int .i64 8] 62)
  have hR := setRow_heap _ w.heap.size _ #[.bool true, .string ⟨#[112, 108, 97, 105, 110]⟩, .string ⟨#[]⟩, .slice (some ⟨b0, 0, none⟩) n0 c0, .slice (some ⟨b1, 0, none⟩) n1 c1, .slice (some ⟨b2, 0, none⟩) n2 c2, .slice (some ⟨b3, 0, none⟩) n3 c3, .slice (some ⟨b4, 0, none⟩) n4 c4, .slice (some ⟨b5, 0, none⟩) n5 c5, .slice (some ⟨b6, 0, none⟩) n6 c6, .slice (some ⟨b7, 0, none⟩) n7 c7, .slice (some ⟨w1.heap.size, 0, none⟩) 1 1, .int .i64 host, .slice (some ⟨w1.heap.size + 1 + 1, 0, none⟩) 1 1, .int .i64 3, .int .i64 0, .string ⟨#[]⟩, .slice none 0 0, .bool false, .bool false, .int .u32 0, .int .u32 0, .int .u32 0] _ _ (hbz _ d3)
  obtain ⟨W3, hW3⟩ : ∃ W3, W3 = (((w1.alloc (.cells #[.string ⟨#[115, 115, 104, 45, 101, 100, 50, 53, 53, 49, 57]⟩] 9)).alloc (.cells #[.bool true, .string ⟨#[112, 108, 97, 105, 110]⟩, .string ⟨#[]⟩, .slice (some ⟨b0, 0, none⟩) n0 c0, .slice (some ⟨b1, 0, none⟩) n1 c1, .slice (some ⟨b2, 0, none⟩) n2 c2, .slice (some ⟨b3, 0, none⟩) n3 c3, .slice (some ⟨b4, 0, none⟩) n4 c4, .slice (some ⟨b5, 0, none⟩) n5 c5, .slice (some ⟨b6, 0, none⟩) n6 c6, .slice (some ⟨b7, 0, none⟩) n7 c7, .slice (some ⟨w1.heap.size, 0, none⟩) 1 1, .int .i64 host, .slice (some ⟨w1.heap.size + 1 + 1, 0, none⟩) 1 1, .int .i64 3, .int .i64 0, .string ⟨#[]⟩, .slice none 0 0, .bool false, .bool false, .int .u32 0, .int .u32 0, .int .u32 0] 51)).alloc (.cells #[.string ⟨#[97, 110, 110]⟩, .int .i64 8] 62)) := ⟨_, rfl⟩
  rw [← hW3] at y1 y3 d3 hR ⊢
  clear hW3
  refine bodyPost_ret (results_cell_row rfl _ _ w.heap.size _ _ (0, 0) _ rfl hR Tryd.underlying51 rfl (by exact sizeZ)) rfl ?_
  obtain ⟨e0, e1, e2, e3, e4, e5, e6, e7⟩ := HE.out
  obtain ⟨l0, l1, l2, l3, l4, l5, l6, l7⟩ := HL.out
  have hU3 := HU.out.below d3
  have hn1 : w1.heap.size ≠ w.heap.size := by omega
  have hn3 : w1.heap.size + 1 + 1 ≠ w.heap.size := by omega
  refine ⟨{ sv := true, so := ⟨#[112, 108, 97, 105, 110]⟩, co := ⟨#[]⟩, a0 := some ⟨b0, 0, none⟩, n0 := n0, c0 := c0, a1 := some ⟨b1, 0, none⟩, n1 := n1, c1 := c1, a2 := some ⟨b2, 0, none⟩, n2 := n2, c2 := c2, a3 := some ⟨b3, 0, none⟩, n3 := n3, c3 := c3, a4 := some ⟨b4, 0, none⟩, n4 := n4, c4 := c4, a5 := some ⟨b5, 0, none⟩, n5 := n5, c5 := c5, a6 := some ⟨b6, 0, none⟩, n6 := n6, c6 := c6, a7 := some ⟨b7, 0, none⟩, n7 := n7, c7 := c7, aa := some ⟨w1.heap.size, 0, none⟩, na := 1, ca := 1, ow := host, ag := some ⟨w1.heap.size + 1 + 1, 0, none⟩, ng := 1, cg := 1, li := 3, pe := 0, us := ⟨#[]⟩, ak := none, nk := 0, ck := 0, ex := false, gu := false, w0 := 0, w1 := 0, w2 := 0 }, rfl, ⟨rfl, rfl, rfl, fun k hk => ?_, ?_, ?_, ?_⟩, ⟨rfl, rfl, rfl, rfl, rfl, rfl, rfl, rfl, rfl⟩, fun k hk => ?_, ?_⟩
  · match k, hk with
    | 0, _ =>
      have h := hU3.at_ 0 (by omega)
      rw [e0] at h
      exact texts_row25 h (fun b n c e => by injection e with e; injection e with e; injection e with e; rw [← e]; rw [World.size_alloc] at l0; omega) (fun b off n c e => by injection e with e; injection e with e; injection e with _ e; exact e.symm) _
    | 1, _ =>
      have h := hU3.at_ 1 (by omega)
      rw [e1] at h
      exact texts_row25 h (fun b n c e => by injection e with e; injection e with e; injection e with e; rw [← e]; rw [World.size_alloc] at l1; omega) (fun b off n c e => by injection e with e; injection e with e; injection e with _ e; exact e.symm) _
    | 2, _ =>
      have h := hU3.at_ 2 (by omega)
      rw [e2] at h
      exact texts_row25 h (fun b n c e => by injection e with e; injection e with e; injection e with e; rw [← e]; rw [World.size_alloc] at l2; omega) (fun b off n c e => by injection e with e; injection e with e; injection e with _ e; exact e.symm) _
    | 3, _ =>
      have h := hU3.at_ 3 (by omega)
      rw [e3] at h
      exact texts_row25 h (fun b n c e => by injection e with e; injection e with e; injection e with e; rw [← e]; rw [World.size_alloc] at l3; omega) (fun b off n c e => by injection e with e; injection e with e; injection e with _ e; exact e.symm) _
    | 4, _ =>
      have h := hU3.at_ 4 (by omega)
      rw [e4] at h
      exact texts_row25 h (fun b n c e => by injection e with e; injection e with e; injection e with e; rw [← e]; rw [World.size_alloc] at l4; omega) (fun b off n c e => by injection e with e; injection e with e; injection e with _ e; exact e.symm) _
    | 5, _ =>
      have h := hU3.at_ 5 (by omega)
      rw [e5] at h
      exact texts_row25 h (fun b n c e => by injection e with e; injection e with e; injection e with e; rw [← e]; rw [World.size_alloc] at l5; omega) (fun b off n c e => by injection e with e; injection e with e; injection e with _ e; exact e.symm) _
    | 6, _ =>
      have h := hU3.at_ 6 (by omega)
      rw [e6] at h
      exact texts_row25 h (fun b n c e => by injection e with e; injection e with e; injection e with e; rw [← e]; rw [World.size_alloc] at l6; omega) (fun b off n c e => by injection e with e; injection e with e; injection e with _ e; exact e.symm) _
    | 7, _ =>
      have h := hU3.at_ 7 (by omega)
      rw [e7] at h
      exact texts_row25 h (fun b n c e => by injection e with e; injection e with e; injection e with e; rw [← e]; rw [World.size_alloc] at l7; omega) (fun b off n c e => by injection e with e; injection e with e; injection e with _ e; exact e.symm) _
    | k + 8, h => exact absurd h (by omega)
  · exact texts_one (x := edL) (cell_row y1 hn1 _)
  · exact grants_one (x := annS25) (cell_row y3 hn3 _)
  · exact IdsAt.nil _
  · match k, hk with
    | 0, _ =>
      have h := hU3.room 0 (by omega)
      rw [e0] at h
      exact h
    | 1, _ =>
      have h := hU3.room 1 (by omega)
      rw [e1] at h
      exact h
    | 2, _ =>
      have h := hU3.room 2 (by omega)
      rw [e2] at h
      exact h
    | 3, _ =>
      have h := hU3.room 3 (by omega)
      rw [e3] at h
      exact h
    | 4, _ =>
      have h := hU3.room 4 (by omega)
      rw [e4] at h
      exact h
    | 5, _ =>
      have h := hU3.room 5 (by omega)
      rw [e5] at h
      exact h
    | 6, _ =>
      have h := hU3.room 6 (by omega)
      rw [e6] at h
      exact h
    | 7, _ =>
      have h := hU3.room 7 (by omega)
      rw [e7] at h
      exact h
    | k + 8, h => exact absurd h (by omega)
  · exact below_setRow (d1.trans (d3.mono d1.size)) (Nat.le_refl _) _
end Go.Proofs.YtgoinpibllomfaaDoor
