/- Part 21 of what the statement wants. -/
import Derived.Test.YtgoinpibllomfaaDoorPk18
import Derived.Test.YtgoinpibllomfaaDoorPk20
namespace Go.Proofs.YtgoinpibllomfaaDoor
open Go.RowKit

theorem sizeInit25 : (Tryd.prog.info? 56).map (·.size) = some 16 := by kernel_rfl
/-- What is said, with these lists: ours are new, those of languages are nil. -/
def initV (C : ByteArray) (u : Nat → Value) (p1 p2 p3 p4 p5 : Bool) : Value := .agg #[.string C, u 0, u 1, u 2, u 3, u 4, u 5, u 6, u 7, .slice none 0 0, .slice none 0 0, .bool p1, .bool p2, .bool p3, .bool p4, .bool p5]
def Inits25 (w : World) (C : ByteArray) (p : Nat → List (List UInt8)) (p1 p2 p3 p4 p5 : Bool) (e : Ending) (w' : World) : Prop := ∃ u : Nat → Value, e = .returned (initV C u p1 p2 p3 p4 p5) ∧ (∀ k < 8, TextsAt w' (u k) ((p k).map bs)) ∧ Below w.heap.size w w'
set_option maxHeartbeats 4000000 in
set_option maxRecDepth 100000 in
theorem cfInit_raw {w : World} {c : CfV} {d : CfL} (h : CfAt w c d) (hl : ∀ k < 8, (d.p k).length ≤ 1000) (s n : Int) (hs : s < 9223372036854775808) (hn : n < 9223372036854775808) (sv ex gu first : Bool) (hf : (n == 0) = first) :
    Calls Tryd.prog 21 #[.agg #[.bool sv, .string c.so, .string c.co, .slice c.a0 c.n0 c.c0, .slice c.a1 c.n1 c.c1, .slice c.a2 c.n2 c.c2, .slice c.a3 c.n3 c.c3, .slice c.a4 c.n4 c.c4, .slice c.a5 c.n5 c.c5, .slice c.a6 c.n6 c.c6, .slice c.a7 c.n7 c.c7, .slice c.aa c.na c.ca, .int .i64 c.ow, .slice c.ag c.ng c.cg, .int .i64 c.li, .int .i64 c.pe, .string c.us, .slice c.ak c.nk c.ck, .bool ex, .bool gu, .int .u32 c.w0, .int .u32 c.w1, .int .u32 c.w2], .int .i64 s, .int .i64 n] w (Inits25 w (bs (cookieP s n)) d.p (!sv && first && ex) false (!sv && first) (sv && first) (!sv && gu)) := by
  have HK : Hid (∀ W, Calls Tryd.prog 39 #[.int .i64 s, .int .i64 n] W fun e w' => e = .returned (.string (bs (cookieP s n))) ∧ Below W.heap.size W w') := fun W => kxCookie_any s n hs hn W
  have HC : Hid (∀ W, Below w.heap.size w W → Calls Tryd.prog 40 #[.agg #[.slice c.a0 c.n0 c.c0, .slice c.a1 c.n1 c.c1, .slice c.a2 c.n2 c.c2, .slice c.a3 c.n3 c.c3, .slice c.a4 c.n4 c.c4, .slice c.a5 c.n5 c.c5, .slice c.a6 c.n6 c.c6, .slice c.a7 c.n7 c.c7]] W (Copied8 W d.p)) := fun W hb => by
    have e : agg8 c.u = .agg #[.slice c.a0 c.n0 c.c0, .slice c.a1 c.n1 c.c1, .slice c.a2 c.n2 c.c2, .slice c.a3 c.n3 c.c3, .slice c.a4 c.n4 c.c4, .slice c.a5 c.n5 c.c5, .slice c.a6 c.n6 c.c6, .slice c.a7 c.n7 c.c7] := rfl
    rw [← e]
    exact cfCopyP_any (fun k hk => (h.pf k hk).below hb) hl
  have hb : Below w.heap.size w ((w.alloc (.cells #[.bool sv, .string c.so, .string c.co, .slice c.a0 c.n0 c.c0, .slice c.a1 c.n1 c.c1, .slice c.a2 c.n2 c.c2, .slice c.a3 c.n3 c.c3, .slice c.a4 c.n4 c.c4, .slice c.a5 c.n5 c.c5, .slice c.a6 c.n6 c.c6, .slice c.a7 c.n7 c.c7, .slice c.aa c.na c.ca, .int .i64 c.ow, .slice c.ag c.ng c.cg, .int .i64 c.li, .int .i64 c.pe, .string c.us, .slice c.ak c.nk c.ck, .bool ex, .bool gu, .int .u32 c.w0, .int .u32 c.w1, .int .u32 c.w2] 51)).alloc (.cells #[.string ⟨#[]⟩, .slice none 0 0, .slice none 0 0, .slice none 0 0, .slice none 0 0, .slice none 0 0, .slice none 0 0, .slice none 0 0, .slice none 0 0, .slice none 0 0, .slice none 0 0, .bool false, .bool false, .bool false, .bool false, .bool false] 56)) := ((Below.refl _ _).alloc (Nat.le_refl _) _).alloc (by simp only [World.size_alloc]; omega) _
  have HB := Lib.hid hb
  have hN := And.intro (show Holds _ w.heap.size 51 #[.bool sv, .string c.so, .string c.co, .slice c.a0 c.n0 c.c0, .slice c.a1 c.n1 c.c1, .slice c.a2 c.n2 c.c2, .slice c.a3 c.n3 c.c3, .slice c.a4 c.n4 c.c4, .slice c.a5 c.n5 c.c5, .slice c.a6 c.n6 c.c6, .slice c.a7 c.n7 c.c7, .slice c.aa c.na c.ca, .int .i64 c.ow, .slice c.ag c.ng c.cg, .int .i64 c.li, .int .i64 c.pe, .string c.us, .slice c.ak c.nk c.ck, .bool ex, .bool gu, .int .u32 c.w0, .int .u32 c.w1, .int .u32 c.w2] from first2_row w #[.bool sv, .string c.so, .string c.co, .slice c.a0 c.n0 c.c0, .slice c.a1 c.n1 c.c1, .slice c.a2 c.n2 c.c2, .slice c.a3 c.n3 c.c3, .slice c.a4 c.n4 c.c4, .slice c.a5 c.n5 c.c5, .slice c.a6 c.n6 c.c6, .slice c.a7 c.n7 c.c7, .slice c.aa c.na c.ca, .int .i64 c.ow, .slice c.ag c.ng c.cg, .int .i64 c.li, .int .i64 c.pe, .string c.us, .slice c.ak c.nk c.ck, .bool ex, .bool gu, .int .u32 c.w0, .int .u32 c.w1, .int .u32 c.w2] 51 (.cells #[.string ⟨#[]⟩, .slice none 0 0, .slice none 0 0, .slice none 0 0, .slice none 0 0, .slice none 0 0, .slice none 0 0, .slice none 0 0, .slice none 0 0, .slice none 0 0, .slice none 0 0, .bool false, .bool false, .bool false, .bool false, .bool false] 56) rfl) (show Holds _ (w.heap.size + 1) 56 #[.string ⟨#[]⟩, .slice none 0 0, .slice none 0 0, .slice none 0 0, .slice none 0 0, .slice none 0 0, .slice none 0 0, .slice none 0 0, .slice none 0 0, .slice none 0 0, .slice none 0 0, .bool false, .bool false, .bool false, .bool false, .bool false] from last2_row w #[.string ⟨#[]⟩, .slice none 0 0, .slice none 0 0, .slice none 0 0, .slice none 0 0, .slice none 0 0, .slice none 0 0, .slice none 0 0, .slice none 0 0, .slice none 0 0, .slice none 0 0, .bool false, .bool false, .bool false, .bool false, .bool false] 56 (.cells #[.bool sv, .string c.so, .string c.co, .slice c.a0 c.n0 c.c0, .slice c.a1 c.n1 c.c1, .slice c.a2 c.n2 c.c2, .slice c.a3 c.n3 c.c3, .slice c.a4 c.n4 c.c4, .slice c.a5 c.n5 c.c5, .slice c.a6 c.n6 c.c6, .slice c.a7 c.n7 c.c7, .slice c.aa c.na c.ca, .int .i64 c.ow, .slice c.ag c.ng c.cg, .int .i64 c.li, .int .i64 c.pe, .string c.us, .slice c.ak c.nk c.ck, .bool ex, .bool gu, .int .u32 c.w0, .int .u32 c.w1, .int .u32 c.w2] 51) rfl)
  have HX : Hid (∀ W, Below ((w.alloc (.cells #[.bool sv, .string c.so, .string c.co, .slice c.a0 c.n0 c.c0, .slice c.a1 c.n1 c.c1, .slice c.a2 c.n2 c.c2, .slice c.a3 c.n3 c.c3, .slice c.a4 c.n4 c.c4, .slice c.a5 c.n5 c.c5, .slice c.a6 c.n6 c.c6, .slice c.a7 c.n7 c.c7, .slice c.aa c.na c.ca, .int .i64 c.ow, .slice c.ag c.ng c.cg, .int .i64 c.li, .int .i64 c.pe, .string c.us, .slice c.ak c.nk c.ck, .bool ex, .bool gu, .int .u32 c.w0, .int .u32 c.w1, .int .u32 c.w2] 51)).alloc (.cells #[.string ⟨#[]⟩, .slice none 0 0, .slice none 0 0, .slice none 0 0, .slice none 0 0, .slice none 0 0, .slice none 0 0, .slice none 0 0, .slice none 0 0, .slice none 0 0, .slice none 0 0, .bool false, .bool false, .bool false, .bool false, .bool false] 56)).heap.size ((w.alloc (.cells #[.bool sv, .string c.so, .string c.co, .slice c.a0 c.n0 c.c0, .slice c.a1 c.n1 c.c1, .slice c.a2 c.n2 c.c2, .slice c.a3 c.n3 c.c3, .slice c.a4 c.n4 c.c4, .slice c.a5 c.n5 c.c5, .slice c.a6 c.n6 c.c6, .slice c.a7 c.n7 c.c7, .slice c.aa c.na c.ca, .int .i64 c.ow, .slice c.ag c.ng c.cg, .int .i64 c.li, .int .i64 c.pe, .string c.us, .slice c.ak c.nk c.ck, .bool ex, .bool gu, .int .u32 c.w0, .int .u32 c.w1, .int .u32 c.w2] 51)).alloc (.cells #[.string ⟨#[]⟩, .slice none 0 0, .slice none 0 0, .slice none 0 0, .slice none 0 0, .slice none 0 0, .slice none 0 0, .slice none 0 0, .slice none 0 0, .slice none 0 0, .slice none 0 0, .bool false, .bool false, .bool false, .bool false, .bool false] 56)) W → W.cell? ⟨w.heap.size, 0, none⟩ = some (.bool sv) ∧ W.cell? ⟨w.heap.size, 3, none⟩ = some (.slice c.a0 c.n0 c.c0) ∧ W.cell? ⟨w.heap.size, 4, none⟩ = some (.slice c.a1 c.n1 c.c1) ∧ W.cell? ⟨w.heap.size, 5, none⟩ = some (.slice c.a2 c.n2 c.c2) ∧ W.cell? ⟨w.heap.size, 6, none⟩ = some (.slice c.a3 c.n3 c.c3) ∧ W.cell? ⟨w.heap.size, 7, none⟩ = some (.slice c.a4 c.n4 c.c4) ∧ W.cell? ⟨w.heap.size, 8, none⟩ = some (.slice c.a5 c.n5 c.c5) ∧ W.cell? ⟨w.heap.size, 9, none⟩ = some (.slice c.a6 c.n6 c.c6) ∧ W.cell? ⟨w.heap.size, 10, none⟩ = some (.slice c.a7 c.n7 c.c7) ∧ W.cell? ⟨w.heap.size, 18, none⟩ = some (.bool ex) ∧ W.cell? ⟨w.heap.size, 19, none⟩ = some (.bool gu)) := fun W hW => by
    have h1 := Holds.cell (show Holds W w.heap.size 51 #[.bool sv, .string c.so, .string c.co, .slice c.a0 c.n0 c.c0, .slice c.a1 c.n1 c.c1, .slice c.a2 c.n2 c.c2, .slice c.a3 c.n3 c.c3, .slice c.a4 c.n4 c.c4, .slice c.a5 c.n5 c.c5, .slice c.a6 c.n6 c.c6, .slice c.a7 c.n7 c.c7, .slice c.aa c.na c.ca, .int .i64 c.ow, .slice c.ag c.ng c.cg, .int .i64 c.li, .int .i64 c.pe, .string c.us, .slice c.ak c.nk c.ck, .bool ex, .bool gu, .int .u32 c.w0, .int .u32 c.w1, .int .u32 c.w2] from (hW.block _ hN.1.lt).trans hN.1)
    exact ⟨h1 0, h1 3, h1 4, h1 5, h1 6, h1 7, h1 8, h1 9, h1 10, h1 18, h1 19⟩
  have HI := Lib.hid hN.2
  have BR : Hid (Below ((w.alloc (.cells #[.bool sv, .string c.so, .string c.co, .slice c.a0 c.n0 c.c0, .slice c.a1 c.n1 c.c1, .slice c.a2 c.n2 c.c2, .slice c.a3 c.n3 c.c3, .slice c.a4 c.n4 c.c4, .slice c.a5 c.n5 c.c5, .slice c.a6 c.n6 c.c6, .slice c.a7 c.n7 c.c7, .slice c.aa c.na c.ca, .int .i64 c.ow, .slice c.ag c.ng c.cg, .int .i64 c.li, .int .i64 c.pe, .string c.us, .slice c.ak c.nk c.ck, .bool ex, .bool gu, .int .u32 c.w0, .int .u32 c.w1, .int .u32 c.w2] 51)).alloc (.cells #[.string ⟨#[]⟩, .slice none 0 0, .slice none 0 0, .slice none 0 0, .slice none 0 0, .slice none 0 0, .slice none 0 0, .slice none 0 0, .slice none 0 0, .slice none 0 0, .slice none 0 0, .bool false, .bool false, .bool false, .bool false, .bool false] 56)).heap.size ((w.alloc (.cells #[.bool sv, .string c.so, .string c.co, .slice c.a0 c.n0 c.c0, .slice c.a1 c.n1 c.c1, .slice c.a2 c.n2 c.c2, .slice c.a3 c.n3 c.c3, .slice c.a4 c.n4 c.c4, .slice c.a5 c.n5 c.c5, .slice c.a6 c.n6 c.c6, .slice c.a7 c.n7 c.c7, .slice c.aa c.na c.ca, .int .i64 c.ow, .slice c.ag c.ng c.cg, .int .i64 c.li, .int .i64 c.pe, .string c.us, .slice c.ak c.nk c.ck, .bool ex, .bool gu, .int .u32 c.w0, .int .u32 c.w1, .int .u32 c.w2] 51)).alloc (.cells #[.string ⟨#[]⟩, .slice none 0 0, .slice none 0 0, .slice none 0 0, .slice none 0 0, .slice none 0 0, .slice none 0 0, .slice none 0 0, .slice none 0 0, .slice none 0 0, .slice none 0 0, .bool false, .bool false, .bool false, .bool false, .bool false] 56)) ((w.alloc (.cells #[.bool sv, .string c.so, .string c.co, .slice c.a0 c.n0 c.c0, .slice c.a1 c.n1 c.c1, .slice c.a2 c.n2 c.c2, .slice c.a3 c.n3 c.c3, .slice c.a4 c.n4 c.c4, .slice c.a5 c.n5 c.c5, .slice c.a6 c.n6 c.c6, .slice c.a7 c.n7 c.c7, .slice c.aa c.na c.ca, .int .i64 c.ow, .slice c.ag c.ng c.cg, .int .i64 c.li, .int .i64 c.pe, .string c.us, .slice c.ak c.nk c.ck, .bool ex, .bool gu, .int .u32 c.w0, .int .u32 c.w1, .int .u32 c.w2] 51)).alloc (.cells #[.string ⟨#[]⟩, .slice none 0 0, .slice none 0 0, .slice none 0 0, .slice none 0 0, .slice none 0 0, .slice none 0 0, .slice none 0 0, .slice none 0 0, .slice none 0 0, .slice none 0 0, .bool false, .bool false, .bool false, .bool false, .bool false] 56)).drew) := (Below.refl _ _).drew
  have hsz0 : ((w.alloc (.cells #[.bool sv, .string c.so, .string c.co, .slice c.a0 c.n0 c.c0, .slice c.a1 c.n1 c.c1, .slice c.a2 c.n2 c.c2, .slice c.a3 c.n3 c.c3, .slice c.a4 c.n4 c.c4, .slice c.a5 c.n5 c.c5, .slice c.a6 c.n6 c.c6, .slice c.a7 c.n7 c.c7, .slice c.aa c.na c.ca, .int .i64 c.ow, .slice c.ag c.ng c.cg, .int .i64 c.li, .int .i64 c.pe, .string c.us, .slice c.ak c.nk c.ck, .bool ex, .bool gu, .int .u32 c.w0, .int .u32 c.w1, .int .u32 c.w2] 51)).alloc (.cells #[.string ⟨#[]⟩, .slice none 0 0, .slice none 0 0, .slice none 0 0, .slice none 0 0, .slice none 0 0, .slice none 0 0, .slice none 0 0, .slice none 0 0, .slice none 0 0, .slice none 0 0, .bool false, .bool false, .bool false, .bool false, .bool false] 56)).heap.size = w.heap.size + 2 := by simp only [World.size_alloc]
  have HS0 := Lib.hid hsz0
  generalize bs (cookieP s n) = C at *
  clear h hl hN hs hn hb hsz0
  go_enter Tryd.func21, Tryd.ntmps21
  go_wp2_with fail
  generalize ((w.alloc (.cells #[.bool sv, .string c.so, .string c.co, .slice c.a0 c.n0 c.c0, .slice c.a1 c.n1 c.c1, .slice c.a2 c.n2 c.c2, .slice c.a3 c.n3 c.c3, .slice c.a4 c.n4 c.c4, .slice c.a5 c.n5 c.c5, .slice c.a6 c.n6 c.c6, .slice c.a7 c.n7 c.c7, .slice c.aa c.na c.ca, .int .i64 c.ow, .slice c.ag c.ng c.cg, .int .i64 c.li, .int .i64 c.pe, .string c.us, .slice c.ak c.nk c.ck, .bool ex, .bool gu, .int .u32 c.w0, .int .u32 c.w1, .int .u32 c.w2] 51)).alloc (.cells #[.string ⟨#[]⟩, .slice none 0 0, .slice none 0 0, .slice none 0 0, .slice none 0 0, .slice none 0 0, .slice none 0 0, .slice none 0 0, .slice none 0 0, .slice none 0 0, .slice none 0 0, .bool false, .bool false, .bool false, .bool false, .bool false] 56)) = W0 at *
  cases sv <;> cases first
  · refine wp_region_held_drew (S := fun w' => w'.cell? ⟨w.heap.size, 0, none⟩ = some (.bool false) ∧ w'.cell? ⟨w.heap.size, 3, none⟩ = some (.slice c.a0 c.n0 c.c0) ∧ w'.cell? ⟨w.heap.size, 4, none⟩ = some (.slice c.a1 c.n1 c.c1) ∧ w'.cell? ⟨w.heap.size, 5, none⟩ = some (.slice c.a2 c.n2 c.c2) ∧ w'.cell? ⟨w.heap.size, 6, none⟩ = some (.slice c.a3 c.n3 c.c3) ∧ w'.cell? ⟨w.heap.size, 7, none⟩ = some (.slice c.a4 c.n4 c.c4) ∧ w'.cell? ⟨w.heap.size, 8, none⟩ = some (.slice c.a5 c.n5 c.c5) ∧ w'.cell? ⟨w.heap.size, 9, none⟩ = some (.slice c.a6 c.n6 c.c6) ∧ w'.cell? ⟨w.heap.size, 10, none⟩ = some (.slice c.a7 c.n7 c.c7) ∧ w'.cell? ⟨w.heap.size, 18, none⟩ = some (.bool ex) ∧ w'.cell? ⟨w.heap.size, 19, none⟩ = some (.bool gu)) (by kernel_rfl) ?_ (fun hHeld => ?_)
    · exact HX.out _ BR.out
    refine wpAnyH_take (i := 0) (oi := { dst := some 14, op := Op.move (Operand.tmp 1), type := 3, pos := "conf.go:83", after := #[], guard := none }) (v := ?_) rfl (by kernel_rfl) (by kernel_rfl) (by kernel_rfl) (fun _ _ _ h => h) (Or.inl ⟨by rfl, ?_⟩) (by assumption) ?_
    rotate_left 1
    · (intro w hSw; (try dsimp only at hSw); go_simp; (try with_reducible rfl))
    try simp only [Act.put, List.setIfInBounds_toArray, List.set_cons_zero, List.set_cons_succ]
    refine wpAnyH_take (i := 1) (oi := { dst := some 15, op := Op.move (Operand.tmp 2), type := 3, pos := "conf.go:83", after := #[], guard := none }) (v := ?_) rfl (by kernel_rfl) (by kernel_rfl) (by kernel_rfl) (fun _ _ _ h => h) (Or.inl ⟨by rfl, ?_⟩) (by assumption) ?_
    rotate_left 1
    · (intro w hSw; (try dsimp only at hSw); go_simp; (try with_reducible rfl))
    try simp only [Act.put, List.setIfInBounds_toArray, List.set_cons_zero, List.set_cons_succ]
    refine wpAnyH_take (i := 3) (oi := { dst := some 17, op := Op.fieldAddr 51 (Operand.tmp 3) 3, type := 0, pos := "conf.go:83", after := #[], guard := none }) (v := ?_) rfl (by kernel_rfl) (by kernel_rfl) (by kernel_rfl) (fun _ _ _ h => h) (Or.inl ⟨by rfl, ?_⟩) (by assumption) ?_
    rotate_left 1
    · (intro w hSw; (try dsimp only at hSw); go_simp; (try with_reducible rfl))
    try simp only [Act.put, List.setIfInBounds_toArray, List.set_cons_zero, List.set_cons_succ]
    refine wpAnyH_take (i := 4) (oi := { dst := some 18, op := Op.load 46 (Operand.tmp 17), type := 46, pos := "conf.go:83", after := #[{ on := 3, ground := Ground.data }], guard := none }) (v := ?_) rfl (by kernel_rfl) (by kernel_rfl) (by kernel_rfl) (fun _ _ _ h => h) (Or.inl ⟨by rfl, ?_⟩) (by assumption) ?_
    rotate_left 1
    · (intro w hSw; (try dsimp only at hSw); go_simp; (try with_reducible rfl))
    try simp only [Act.put, List.setIfInBounds_toArray, List.set_cons_zero, List.set_cons_succ]
    refine wpAnyH_take (i := 6) (oi := { dst := some 20, op := Op.move (Operand.tmp 7), type := 4, pos := "conf.go:83", after := #[], guard := none }) (v := ?_) rfl (by kernel_rfl) (by kernel_rfl) (by kernel_rfl) (fun _ _ _ h => h) (Or.inl ⟨by rfl, ?_⟩) (by assumption) ?_
    rotate_left 1
    · (intro w hSw; (try dsimp only at hSw); go_simp; (try with_reducible rfl))
    try simp only [Act.put, List.setIfInBounds_toArray, List.set_cons_zero, List.set_cons_succ]
    refine wpAnyH_take (i := 14) (oi := { dst := some 28, op := Op.move (Operand.tmp 7), type := 4, pos := "conf.go:83", after := #[], guard := none }) (v := ?_) rfl (by kernel_rfl) (by kernel_rfl) (by kernel_rfl) (fun _ _ _ h => h) (Or.inl ⟨by rfl, ?_⟩) (by assumption) ?_
    rotate_left 1
    · (intro w hSw; (try dsimp only at hSw); go_simp; (try with_reducible rfl))
    try simp only [Act.put, List.setIfInBounds_toArray, List.set_cons_zero, List.set_cons_succ]
    refine wpAnyH_take (i := 18) (oi := { dst := some 32, op := Op.fieldAddr 51 (Operand.tmp 3) 0, type := 0, pos := "conf.go:83", after := #[], guard := none }) (v := ?_) rfl (by kernel_rfl) (by kernel_rfl) (by kernel_rfl) (fun _ _ _ h => h) (Or.inl ⟨by rfl, ?_⟩) (by assumption) ?_
    rotate_left 1
    · (intro w hSw; (try dsimp only at hSw); go_simp; (try with_reducible rfl))
    try simp only [Act.put, List.setIfInBounds_toArray, List.set_cons_zero, List.set_cons_succ]
    refine wpAnyH_take (i := 19) (oi := { dst := some 33, op := Op.load 4 (Operand.tmp 32), type := 4, pos := "conf.go:83", after := #[{ on := 18, ground := Ground.data }], guard := none }) (v := ?_) rfl (by kernel_rfl) (by kernel_rfl) (by kernel_rfl) (fun _ _ _ h => h) (Or.inl ⟨by rfl, ?_⟩) (by assumption) ?_
    rotate_left 1
    · (intro w hSw; (try dsimp only at hSw); go_simp; (try with_reducible rfl))
    try simp only [Act.put, List.setIfInBounds_toArray, List.set_cons_zero, List.set_cons_succ]
    refine wpAnyH_take (i := 23) (oi := { dst := some 37, op := Op.move (Operand.tmp 7), type := 4, pos := "conf.go:83", after := #[], guard := none }) (v := ?_) rfl (by kernel_rfl) (by kernel_rfl) (by kernel_rfl) (fun _ _ _ h => h) (Or.inl ⟨by rfl, ?_⟩) (by assumption) ?_
    rotate_left 1
    · (intro w hSw; (try dsimp only at hSw); go_simp; (try with_reducible rfl))
    try simp only [Act.put, List.setIfInBounds_toArray, List.set_cons_zero, List.set_cons_succ]
    refine wpAnyH_ready (rs := [2]) (by kernel_rfl) (by simp) ?_
    refine AllReadyH.cons (o := { dst := some 16, op := Op.call { callee := Callee.value (Operand.func 39), args := #[Operand.tmp 14, Operand.tmp 15], argTypes := #[3, 3] }, type := 9, pos := "conf.go:84", after := #[{ on := 0, ground := Ground.data }, { on := 1, ground := Ground.data }], guard := none }) rfl (fun K hK => ?_) AllReadyH.nil
    go_simp
    go_at_call 39
    with_reducible refine (HK.out _).mono ?_
    rintro e w1 ⟨rfl, bb1⟩
    have B1 := Lib.hid (BR.out.trans (bb1.mono BR.out.size))
    clear bb1
    go_wp2_with fail
    refine hK.out _ _ ?_ (fun hHeld => ?_)
    · exact HX.out _ B1.out
    clear hK K
    try simp only [Act.put, List.setIfInBounds_toArray, List.set_cons_zero, List.set_cons_succ]
    refine wpAnyH_ready (rs := [5]) (by kernel_rfl) (by simp) ?_
    refine AllReadyH.cons (o := { dst := some 19, op := Op.call { callee := Callee.value (Operand.func 40), args := #[Operand.tmp 18], argTypes := #[46] }, type := 46, pos := "conf.go:85", after := #[{ on := 4, ground := Ground.data }, { on := 2, ground := Ground.chain }], guard := none }) rfl (fun K hK => ?_) AllReadyH.nil
    go_simp
    go_at_call 40
    with_reducible refine (HC.out _ (HB.out.trans (B1.out.mono HB.out.size))).mono ?_
    rintro e w2 ⟨u, rfl, ht, hnil, hfr, bb2⟩
    have B2 := Lib.hid (B1.out.trans (bb2.mono B1.out.size))
    have HT := Lib.hid ht
    have HFr := Lib.hid hfr
    obtain ⟨b0, m0, d0, f0⟩ := (texts_sl ht) 0 (by omega); obtain ⟨b1, m1, d1, f1⟩ := (texts_sl ht) 1 (by omega); obtain ⟨b2, m2, d2, f2⟩ := (texts_sl ht) 2 (by omega); obtain ⟨b3, m3, d3, f3⟩ := (texts_sl ht) 3 (by omega); obtain ⟨b4, m4, d4, f4⟩ := (texts_sl ht) 4 (by omega); obtain ⟨b5, m5, d5, f5⟩ := (texts_sl ht) 5 (by omega); obtain ⟨b6, m6, d6, f6⟩ := (texts_sl ht) 6 (by omega); obtain ⟨b7, m7, d7, f7⟩ := (texts_sl ht) 7 (by omega)
    have hX2 : agg8 u = .agg #[.slice b0 m0 d0, .slice b1 m1 d1, .slice b2 m2 d2, .slice b3 m3 d3, .slice b4 m4 d4, .slice b5 m5 d5, .slice b6 m6 d6, .slice b7 m7 d7] := (by unfold agg8; rw [f0, f1, f2, f3, f4, f5, f6, f7])
    rw [hX2]
    have HE := Lib.hid (And.intro f0 (And.intro f1 (And.intro f2 (And.intro f3 (And.intro f4 (And.intro f5 (And.intro f6 f7)))))))
    clear ht hnil hfr bb2 hX2 f0 f1 f2 f3 f4 f5 f6 f7
    go_wp2_with fail
    refine hK.out _ _ ?_ (fun hHeld => ?_)
    · exact HX.out _ B2.out
    clear hK K
    try simp only [Act.put, List.setIfInBounds_toArray, List.set_cons_zero, List.set_cons_succ]
    refine wpAnyH_take (i := 7) (oi := { dst := some 21, op := Op.move (Operand.tmp 20), type := 4, pos := "conf.go:83", after := #[{ on := 6, ground := Ground.data }, { on := 5, ground := Ground.chain }], guard := none }) (v := ?_) rfl (by kernel_rfl) (by kernel_rfl) (by kernel_rfl) (fun _ _ _ h => h) (Or.inl ⟨by rfl, ?_⟩) (by assumption) ?_
    rotate_left 1
    · (intro w hSw; (try dsimp only at hSw); go_simp; (try with_reducible rfl))
    try simp only [Act.put, List.setIfInBounds_toArray, List.set_cons_zero, List.set_cons_succ]
    refine wpAnyH_take (i := 8) (oi := { dst := some 22, op := Op.move (Operand.tmp 8), type := 4, pos := "conf.go:83", after := #[{ on := 7, ground := Ground.guard }], guard := some (7, true) }) (v := ?_) rfl (by kernel_rfl) (by kernel_rfl) (by kernel_rfl) (fun _ _ _ h => h) (Or.inl ⟨by rfl, ?_⟩) (by assumption) ?_
    rotate_left 1
    · (intro w hSw; (try dsimp only at hSw); go_simp; (try with_reducible rfl))
    try simp only [Act.put, List.setIfInBounds_toArray, List.set_cons_zero, List.set_cons_succ]
    refine wpAnyH_take (i := 9) (oi := { dst := some 23, op := Op.pick (Operand.tmp 21) (Operand.tmp 22) (Operand.const (Value.bool false)), type := 4, pos := "conf.go:83", after := #[{ on := 7, ground := Ground.data }, { on := 8, ground := Ground.data }], guard := none }) (v := ?_) rfl (by kernel_rfl) (by kernel_rfl) (by kernel_rfl) (fun _ _ _ h => h) (Or.inl ⟨by rfl, ?_⟩) (by assumption) ?_
    rotate_left 1
    · (intro w hSw; (try dsimp only at hSw); go_simp; (try with_reducible rfl))
    try simp only [Act.put, List.setIfInBounds_toArray, List.set_cons_zero, List.set_cons_succ]
    refine wpAnyH_take (i := 10) (oi := { dst := some 24, op := Op.move (Operand.tmp 23), type := 4, pos := "conf.go:83", after := #[{ on := 9, ground := Ground.data }, { on := 7, ground := Ground.chain }], guard := none }) (v := ?_) rfl (by kernel_rfl) (by kernel_rfl) (by kernel_rfl) (fun _ _ _ h => h) (Or.inl ⟨by rfl, ?_⟩) (by assumption) ?_
    rotate_left 1
    · (intro w hSw; (try dsimp only at hSw); go_simp; (try with_reducible rfl))
    try simp only [Act.put, List.setIfInBounds_toArray, List.set_cons_zero, List.set_cons_succ]
    refine wpAnyH_take (i := 11) (oi := { dst := some 25, op := Op.fieldAddr 51 (Operand.tmp 3) 11, type := 0, pos := "conf.go:83", after := #[{ on := 10, ground := Ground.guard }], guard := some (10, true) }) (v := undef) rfl (by kernel_rfl) (by kernel_rfl) (by kernel_rfl) (fun _ _ _ h => h) (Or.inr ⟨by rfl, rfl⟩) (by assumption) ?_
    try simp only [Act.put, List.setIfInBounds_toArray, List.set_cons_zero, List.set_cons_succ]
    refine wpAnyH_take (i := 12) (oi := { dst := some 26, op := Op.load 4 (Operand.tmp 25), type := 4, pos := "conf.go:83", after := #[{ on := 11, ground := Ground.data }, { on := 10, ground := Ground.guard }], guard := some (10, true) }) (v := undef) rfl (by kernel_rfl) (by kernel_rfl) (by kernel_rfl) (fun _ _ _ h => h) (Or.inr ⟨by rfl, rfl⟩) (by assumption) ?_
    try simp only [Act.put, List.setIfInBounds_toArray, List.set_cons_zero, List.set_cons_succ]
    refine wpAnyH_take (i := 13) (oi := { dst := some 27, op := Op.pick (Operand.tmp 24) (Operand.tmp 26) (Operand.const (Value.bool false)), type := 4, pos := "conf.go:83", after := #[{ on := 10, ground := Ground.data }, { on := 12, ground := Ground.data }], guard := none }) (v := ?_) rfl (by kernel_rfl) (by kernel_rfl) (by kernel_rfl) (fun _ _ _ h => h) (Or.inl ⟨by rfl, ?_⟩) (by assumption) ?_
    rotate_left 1
    · (intro w hSw; (try dsimp only at hSw); go_simp; (try with_reducible rfl))
    try simp only [Act.put, List.setIfInBounds_toArray, List.set_cons_zero, List.set_cons_succ]
    refine wpAnyH_take (i := 15) (oi := { dst := some 29, op := Op.move (Operand.tmp 28), type := 4, pos := "conf.go:83", after := #[{ on := 14, ground := Ground.data }, { on := 10, ground := Ground.chain }], guard := none }) (v := ?_) rfl (by kernel_rfl) (by kernel_rfl) (by kernel_rfl) (fun _ _ _ h => h) (Or.inl ⟨by rfl, ?_⟩) (by assumption) ?_
    rotate_left 1
    · (intro w hSw; (try dsimp only at hSw); go_simp; (try with_reducible rfl))
    try simp only [Act.put, List.setIfInBounds_toArray, List.set_cons_zero, List.set_cons_succ]
    refine wpAnyH_take (i := 16) (oi := { dst := some 30, op := Op.move (Operand.tmp 8), type := 4, pos := "conf.go:83", after := #[{ on := 15, ground := Ground.guard }], guard := some (15, true) }) (v := ?_) rfl (by kernel_rfl) (by kernel_rfl) (by kernel_rfl) (fun _ _ _ h => h) (Or.inl ⟨by rfl, ?_⟩) (by assumption) ?_
    rotate_left 1
    · (intro w hSw; (try dsimp only at hSw); go_simp; (try with_reducible rfl))
    try simp only [Act.put, List.setIfInBounds_toArray, List.set_cons_zero, List.set_cons_succ]
    refine wpAnyH_take (i := 17) (oi := { dst := some 31, op := Op.pick (Operand.tmp 29) (Operand.tmp 30) (Operand.const (Value.bool false)), type := 4, pos := "conf.go:83", after := #[{ on := 15, ground := Ground.data }, { on := 16, ground := Ground.data }], guard := none }) (v := ?_) rfl (by kernel_rfl) (by kernel_rfl) (by kernel_rfl) (fun _ _ _ h => h) (Or.inl ⟨by rfl, ?_⟩) (by assumption) ?_
    rotate_left 1
    · (intro w hSw; (try dsimp only at hSw); go_simp; (try with_reducible rfl))
    try simp only [Act.put, List.setIfInBounds_toArray, List.set_cons_zero, List.set_cons_succ]
    refine wpAnyH_take (i := 20) (oi := { dst := some 34, op := Op.move (Operand.tmp 33), type := 4, pos := "conf.go:83", after := #[{ on := 19, ground := Ground.data }, { on := 15, ground := Ground.chain }], guard := none }) (v := ?_) rfl (by kernel_rfl) (by kernel_rfl) (by kernel_rfl) (fun _ _ _ h => h) (Or.inl ⟨by rfl, ?_⟩) (by assumption) ?_
    rotate_left 1
    · (intro w hSw; (try dsimp only at hSw); go_simp; (try with_reducible rfl))
    try simp only [Act.put, List.setIfInBounds_toArray, List.set_cons_zero, List.set_cons_succ]
    refine wpAnyH_take (i := 21) (oi := { dst := some 35, op := Op.move (Operand.tmp 8), type := 4, pos := "conf.go:83", after := #[{ on := 20, ground := Ground.guard }], guard := some (20, true) }) (v := undef) rfl (by kernel_rfl) (by kernel_rfl) (by kernel_rfl) (fun _ _ _ h => h) (Or.inr ⟨by rfl, rfl⟩) (by assumption) ?_
    try simp only [Act.put, List.setIfInBounds_toArray, List.set_cons_zero, List.set_cons_succ]
    refine wpAnyH_take (i := 22) (oi := { dst := some 36, op := Op.pick (Operand.tmp 34) (Operand.tmp 35) (Operand.const (Value.bool false)), type := 4, pos := "conf.go:83", after := #[{ on := 20, ground := Ground.data }, { on := 21, ground := Ground.data }], guard := none }) (v := ?_) rfl (by kernel_rfl) (by kernel_rfl) (by kernel_rfl) (fun _ _ _ h => h) (Or.inl ⟨by rfl, ?_⟩) (by assumption) ?_
    rotate_left 1
    · (intro w hSw; (try dsimp only at hSw); go_simp; (try with_reducible rfl))
    try simp only [Act.put, List.setIfInBounds_toArray, List.set_cons_zero, List.set_cons_succ]
    refine wpAnyH_take (i := 24) (oi := { dst := some 38, op := Op.move (Operand.tmp 37), type := 4, pos := "conf.go:83", after := #[{ on := 23, ground := Ground.data }, { on := 20, ground := Ground.chain }], guard := none }) (v := ?_) rfl (by kernel_rfl) (by kernel_rfl) (by kernel_rfl) (fun _ _ _ h => h) (Or.inl ⟨by rfl, ?_⟩) (by assumption) ?_
    rotate_left 1
    · (intro w hSw; (try dsimp only at hSw); go_simp; (try with_reducible rfl))
    try simp only [Act.put, List.setIfInBounds_toArray, List.set_cons_zero, List.set_cons_succ]
    refine wpAnyH_take (i := 25) (oi := { dst := some 39, op := Op.fieldAddr 51 (Operand.tmp 3) 12, type := 0, pos := "conf.go:83", after := #[{ on := 24, ground := Ground.guard }], guard := some (24, true) }) (v := ?_) rfl (by kernel_rfl) (by kernel_rfl) (by kernel_rfl) (fun _ _ _ h => h) (Or.inl ⟨by rfl, ?_⟩) (by assumption) ?_
    rotate_left 1
    · (intro w hSw; (try dsimp only at hSw); go_simp; (try with_reducible rfl))
    try simp only [Act.put, List.setIfInBounds_toArray, List.set_cons_zero, List.set_cons_succ]
    refine wpAnyH_take (i := 26) (oi := { dst := some 40, op := Op.load 4 (Operand.tmp 39), type := 4, pos := "conf.go:83", after := #[{ on := 25, ground := Ground.data }, { on := 24, ground := Ground.guard }], guard := some (24, true) }) (v := ?_) rfl (by kernel_rfl) (by kernel_rfl) (by kernel_rfl) (fun _ _ _ h => h) (Or.inl ⟨by rfl, ?_⟩) (by assumption) ?_
    rotate_left 1
    · (intro w hSw; (try dsimp only at hSw); go_simp; (try with_reducible rfl))
    try simp only [Act.put, List.setIfInBounds_toArray, List.set_cons_zero, List.set_cons_succ]
    refine wpAnyH_take (i := 27) (oi := { dst := some 41, op := Op.pick (Operand.tmp 38) (Operand.tmp 40) (Operand.const (Value.bool false)), type := 4, pos := "conf.go:83", after := #[{ on := 24, ground := Ground.data }, { on := 26, ground := Ground.data }], guard := none }) (v := ?_) rfl (by kernel_rfl) (by kernel_rfl) (by kernel_rfl) (fun _ _ _ h => h) (Or.inl ⟨by rfl, ?_⟩) (by assumption) ?_
    rotate_left 1
    · (intro w hSw; (try dsimp only at hSw); go_simp; (try with_reducible rfl))
    try simp only [Act.put, List.setIfInBounds_toArray, List.set_cons_zero, List.set_cons_succ]
    refine wpAnyH_take (i := 28) (oi := { dst := some 42, op := Op.build 56 #[(0, Operand.tmp 16), (1, Operand.tmp 19), (3, Operand.tmp 27), (5, Operand.tmp 31), (6, Operand.tmp 36), (7, Operand.tmp 41)], type := 56, pos := "conf.go:83", after := #[{ on := 2, ground := Ground.data }, { on := 5, ground := Ground.data }, { on := 13, ground := Ground.data }, { on := 17, ground := Ground.data }, { on := 22, ground := Ground.data }, { on := 27, ground := Ground.data }], guard := none }) (v := ?_) rfl (by kernel_rfl) (by kernel_rfl) (by kernel_rfl) (fun _ _ _ h => h) (Or.inl ⟨by rfl, ?_⟩) (by assumption) ?_
    rotate_left 1
    · (intro w hSw; (try dsimp only at hSw); go_simp; (try with_reducible rfl))
    try simp only [Act.put, List.setIfInBounds_toArray, List.set_cons_zero, List.set_cons_succ]
    obtain ⟨x0, x3, x4, x5, x6, x7, x8, x9, x10, x18, x19⟩ := HX.out _ B2.out
    have hI : w2.heap[w.heap.size + 1]? = some (.cells #[.string ⟨#[]⟩, .slice none 0 0, .slice none 0 0, .slice none 0 0, .slice none 0 0, .slice none 0 0, .slice none 0 0, .slice none 0 0, .slice none 0 0, .slice none 0 0, .slice none 0 0, .bool false, .bool false, .bool false, .bool false, .bool false] 56 (0, 0)) := (B2.out.block _ HI.out.lt).trans HI.out
    have HRw := Lib.hid (setRow_heap w2 (w.heap.size + 1) #[.string ⟨#[]⟩, .slice none 0 0, .slice none 0 0, .slice none 0 0, .slice none 0 0, .slice none 0 0, .slice none 0 0, .slice none 0 0, .slice none 0 0, .slice none 0 0, .slice none 0 0, .bool false, .bool false, .bool false, .bool false, .bool false] #[.string C, .slice b0 m0 d0, .slice b1 m1 d1, .slice b2 m2 d2, .slice b3 m3 d3, .slice b4 m4 d4, .slice b5 m5 d5, .slice b6 m6 d6, .slice b7 m7 d7, .slice none 0 0, .slice none 0 0, .bool false, .bool false, .bool false, .bool false, .bool gu] 56 (0, 0) hI)
    refine wpAnyH_ready (rs := [29]) (by kernel_rfl) (by simp) ?_
    refine AllReadyH.cons rfl (fun K hK => ?_) AllReadyH.nil
    refine step_store_row15 rfl 56 _ _ rfl (w.heap.size + 1) #[.string C, .slice b0 m0 d0, .slice b1 m1 d1, .slice b2 m2 d2, .slice b3 m3 d3, .slice b4 m4 d4, .slice b5 m5 d5, .slice b6 m6 d6, .slice b7 m7 d7, .slice none 0 0, .slice none 0 0, .bool false, .bool false, .bool false, .bool false, .bool gu] rfl rfl 56 #[.string ⟨#[]⟩, .slice none 0 0, .slice none 0 0, .slice none 0 0, .slice none 0 0, .slice none 0 0, .slice none 0 0, .slice none 0 0, .slice none 0 0, .slice none 0 0, .slice none 0 0, .bool false, .bool false, .bool false, .bool false, .bool false] hI (by exact sizeInit25) (by rfl) (by simp [Value.oneCell']) ?_
    refine hK.out _ _ ?_ (fun hHeld => ?_)
    · exact ⟨(cell_setRow_other w2 (w.heap.size + 1) _ ⟨w.heap.size, 0, none⟩ (by show w.heap.size ≠ w.heap.size + 1; omega)).trans x0, (cell_setRow_other w2 (w.heap.size + 1) _ ⟨w.heap.size, 3, none⟩ (by show w.heap.size ≠ w.heap.size + 1; omega)).trans x3, (cell_setRow_other w2 (w.heap.size + 1) _ ⟨w.heap.size, 4, none⟩ (by show w.heap.size ≠ w.heap.size + 1; omega)).trans x4, (cell_setRow_other w2 (w.heap.size + 1) _ ⟨w.heap.size, 5, none⟩ (by show w.heap.size ≠ w.heap.size + 1; omega)).trans x5, (cell_setRow_other w2 (w.heap.size + 1) _ ⟨w.heap.size, 6, none⟩ (by show w.heap.size ≠ w.heap.size + 1; omega)).trans x6, (cell_setRow_other w2 (w.heap.size + 1) _ ⟨w.heap.size, 7, none⟩ (by show w.heap.size ≠ w.heap.size + 1; omega)).trans x7, (cell_setRow_other w2 (w.heap.size + 1) _ ⟨w.heap.size, 8, none⟩ (by show w.heap.size ≠ w.heap.size + 1; omega)).trans x8, (cell_setRow_other w2 (w.heap.size + 1) _ ⟨w.heap.size, 9, none⟩ (by show w.heap.size ≠ w.heap.size + 1; omega)).trans x9, (cell_setRow_other w2 (w.heap.size + 1) _ ⟨w.heap.size, 10, none⟩ (by show w.heap.size ≠ w.heap.size + 1; omega)).trans x10, (cell_setRow_other w2 (w.heap.size + 1) _ ⟨w.heap.size, 18, none⟩ (by show w.heap.size ≠ w.heap.size + 1; omega)).trans x18, (cell_setRow_other w2 (w.heap.size + 1) _ ⟨w.heap.size, 19, none⟩ (by show w.heap.size ≠ w.heap.size + 1; omega)).trans x19⟩
    clear hK K hHeld x0 x3 x4 x5 x6 x7 x8 x9 x10 x18 x19
    refine wpAnyH_done (by kernel_rfl) ?_ _
    go_wp2_with fail
    refine bodyPost_ret (results_cell_row rfl _ _ (w.heap.size + 1) _ #[.string C, .slice b0 m0 d0, .slice b1 m1 d1, .slice b2 m2 d2, .slice b3 m3 d3, .slice b4 m4 d4, .slice b5 m5 d5, .slice b6 m6 d6, .slice b7 m7 d7, .slice none 0 0, .slice none 0 0, .bool false, .bool false, .bool false, .bool false, .bool gu] (0, 0) _ rfl HRw.out Tryd.underlying56 rfl (by exact sizeInit25)) rfl ?_
    obtain ⟨e0, e1, e2, e3, e4, e5, e6, e7⟩ := HE.out
    refine ⟨u, by unfold initV; rw [e0, e1, e2, e3, e4, e5, e6, e7]; rfl, fun k hk => texts_set (HT.out k hk) (fun hne b hb => ?_) _, below_setRow (HB.out.trans (B2.out.mono HB.out.size)) (by omega) _⟩
    have h1 := HFr.out k hk (fun e => hne (by rw [e]; rfl)) b hb
    have h2 := B1.out.size
    have h3 := HS0.out
    omega
  · refine wp_region_held_drew (S := fun w' => w'.cell? ⟨w.heap.size, 0, none⟩ = some (.bool false) ∧ w'.cell? ⟨w.heap.size, 3, none⟩ = some (.slice c.a0 c.n0 c.c0) ∧ w'.cell? ⟨w.heap.size, 4, none⟩ = some (.slice c.a1 c.n1 c.c1) ∧ w'.cell? ⟨w.heap.size, 5, none⟩ = some (.slice c.a2 c.n2 c.c2) ∧ w'.cell? ⟨w.heap.size, 6, none⟩ = some (.slice c.a3 c.n3 c.c3) ∧ w'.cell? ⟨w.heap.size, 7, none⟩ = some (.slice c.a4 c.n4 c.c4) ∧ w'.cell? ⟨w.heap.size, 8, none⟩ = some (.slice c.a5 c.n5 c.c5) ∧ w'.cell? ⟨w.heap.size, 9, none⟩ = some (.slice c.a6 c.n6 c.c6) ∧ w'.cell? ⟨w.heap.size, 10, none⟩ = some (.slice c.a7 c.n7 c.c7) ∧ w'.cell? ⟨w.heap.size, 18, none⟩ = some (.bool ex) ∧ w'.cell? ⟨w.heap.size, 19, none⟩ = some (.bool gu)) (by kernel_rfl) ?_ (fun hHeld => ?_)
    · exact HX.out _ BR.out
    refine wpAnyH_take (i := 0) (oi := { dst := some 14, op := Op.move (Operand.tmp 1), type := 3, pos := "conf.go:83", after := #[], guard := none }) (v := ?_) rfl (by kernel_rfl) (by kernel_rfl) (by kernel_rfl) (fun _ _ _ h => h) (Or.inl ⟨by rfl, ?_⟩) (by assumption) ?_
    rotate_left 1
    · (intro w hSw; (try dsimp only at hSw); go_simp; (try with_reducible rfl))
    try simp only [Act.put, List.setIfInBounds_toArray, List.set_cons_zero, List.set_cons_succ]
    refine wpAnyH_take (i := 1) (oi := { dst := some 15, op := Op.move (Operand.tmp 2), type := 3, pos := "conf.go:83", after := #[], guard := none }) (v := ?_) rfl (by kernel_rfl) (by kernel_rfl) (by kernel_rfl) (fun _ _ _ h => h) (Or.inl ⟨by rfl, ?_⟩) (by assumption) ?_
    rotate_left 1
    · (intro w hSw; (try dsimp only at hSw); go_simp; (try with_reducible rfl))
    try simp only [Act.put, List.setIfInBounds_toArray, List.set_cons_zero, List.set_cons_succ]
    refine wpAnyH_take (i := 3) (oi := { dst := some 17, op := Op.fieldAddr 51 (Operand.tmp 3) 3, type := 0, pos := "conf.go:83", after := #[], guard := none }) (v := ?_) rfl (by kernel_rfl) (by kernel_rfl) (by kernel_rfl) (fun _ _ _ h => h) (Or.inl ⟨by rfl, ?_⟩) (by assumption) ?_
    rotate_left 1
    · (intro w hSw; (try dsimp only at hSw); go_simp; (try with_reducible rfl))
    try simp only [Act.put, List.setIfInBounds_toArray, List.set_cons_zero, List.set_cons_succ]
    refine wpAnyH_take (i := 4) (oi := { dst := some 18, op := Op.load 46 (Operand.tmp 17), type := 46, pos := "conf.go:83", after := #[{ on := 3, ground := Ground.data }], guard := none }) (v := ?_) rfl (by kernel_rfl) (by kernel_rfl) (by kernel_rfl) (fun _ _ _ h => h) (Or.inl ⟨by rfl, ?_⟩) (by assumption) ?_
    rotate_left 1
    · (intro w hSw; (try dsimp only at hSw); go_simp; (try with_reducible rfl))
    try simp only [Act.put, List.setIfInBounds_toArray, List.set_cons_zero, List.set_cons_succ]
    refine wpAnyH_take (i := 6) (oi := { dst := some 20, op := Op.move (Operand.tmp 7), type := 4, pos := "conf.go:83", after := #[], guard := none }) (v := ?_) rfl (by kernel_rfl) (by kernel_rfl) (by kernel_rfl) (fun _ _ _ h => h) (Or.inl ⟨by rfl, ?_⟩) (by assumption) ?_
    rotate_left 1
    · (intro w hSw; (try dsimp only at hSw); go_simp; (try with_reducible rfl))
    try simp only [Act.put, List.setIfInBounds_toArray, List.set_cons_zero, List.set_cons_succ]
    refine wpAnyH_take (i := 14) (oi := { dst := some 28, op := Op.move (Operand.tmp 7), type := 4, pos := "conf.go:83", after := #[], guard := none }) (v := ?_) rfl (by kernel_rfl) (by kernel_rfl) (by kernel_rfl) (fun _ _ _ h => h) (Or.inl ⟨by rfl, ?_⟩) (by assumption) ?_
    rotate_left 1
    · (intro w hSw; (try dsimp only at hSw); go_simp; (try with_reducible rfl))
    try simp only [Act.put, List.setIfInBounds_toArray, List.set_cons_zero, List.set_cons_succ]
    refine wpAnyH_take (i := 18) (oi := { dst := some 32, op := Op.fieldAddr 51 (Operand.tmp 3) 0, type := 0, pos := "conf.go:83", after := #[], guard := none }) (v := ?_) rfl (by kernel_rfl) (by kernel_rfl) (by kernel_rfl) (fun _ _ _ h => h) (Or.inl ⟨by rfl, ?_⟩) (by assumption) ?_
    rotate_left 1
    · (intro w hSw; (try dsimp only at hSw); go_simp; (try with_reducible rfl))
    try simp only [Act.put, List.setIfInBounds_toArray, List.set_cons_zero, List.set_cons_succ]
    refine wpAnyH_take (i := 19) (oi := { dst := some 33, op := Op.load 4 (Operand.tmp 32), type := 4, pos := "conf.go:83", after := #[{ on := 18, ground := Ground.data }], guard := none }) (v := ?_) rfl (by kernel_rfl) (by kernel_rfl) (by kernel_rfl) (fun _ _ _ h => h) (Or.inl ⟨by rfl, ?_⟩) (by assumption) ?_
    rotate_left 1
    · (intro w hSw; (try dsimp only at hSw); go_simp; (try with_reducible rfl))
    try simp only [Act.put, List.setIfInBounds_toArray, List.set_cons_zero, List.set_cons_succ]
    refine wpAnyH_take (i := 23) (oi := { dst := some 37, op := Op.move (Operand.tmp 7), type := 4, pos := "conf.go:83", after := #[], guard := none }) (v := ?_) rfl (by kernel_rfl) (by kernel_rfl) (by kernel_rfl) (fun _ _ _ h => h) (Or.inl ⟨by rfl, ?_⟩) (by assumption) ?_
    rotate_left 1
    · (intro w hSw; (try dsimp only at hSw); go_simp; (try with_reducible rfl))
    try simp only [Act.put, List.setIfInBounds_toArray, List.set_cons_zero, List.set_cons_succ]
    refine wpAnyH_ready (rs := [2]) (by kernel_rfl) (by simp) ?_
    refine AllReadyH.cons (o := { dst := some 16, op := Op.call { callee := Callee.value (Operand.func 39), args := #[Operand.tmp 14, Operand.tmp 15], argTypes := #[3, 3] }, type := 9, pos := "conf.go:84", after := #[{ on := 0, ground := Ground.data }, { on := 1, ground := Ground.data }], guard := none }) rfl (fun K hK => ?_) AllReadyH.nil
    go_simp
    go_at_call 39
    with_reducible refine (HK.out _).mono ?_
    rintro e w1 ⟨rfl, bb1⟩
    have B1 := Lib.hid (BR.out.trans (bb1.mono BR.out.size))
    clear bb1
    go_wp2_with fail
    refine hK.out _ _ ?_ (fun hHeld => ?_)
    · exact HX.out _ B1.out
    clear hK K
    try simp only [Act.put, List.setIfInBounds_toArray, List.set_cons_zero, List.set_cons_succ]
    refine wpAnyH_ready (rs := [5]) (by kernel_rfl) (by simp) ?_
    refine AllReadyH.cons (o := { dst := some 19, op := Op.call { callee := Callee.value (Operand.func 40), args := #[Operand.tmp 18], argTypes := #[46] }, type := 46, pos := "conf.go:85", after := #[{ on := 4, ground := Ground.data }, { on := 2, ground := Ground.chain }], guard := none }) rfl (fun K hK => ?_) AllReadyH.nil
    go_simp
    go_at_call 40
    with_reducible refine (HC.out _ (HB.out.trans (B1.out.mono HB.out.size))).mono ?_
    rintro e w2 ⟨u, rfl, ht, hnil, hfr, bb2⟩
    have B2 := Lib.hid (B1.out.trans (bb2.mono B1.out.size))
    have HT := Lib.hid ht
    have HFr := Lib.hid hfr
    obtain ⟨b0, m0, d0, f0⟩ := (texts_sl ht) 0 (by omega); obtain ⟨b1, m1, d1, f1⟩ := (texts_sl ht) 1 (by omega); obtain ⟨b2, m2, d2, f2⟩ := (texts_sl ht) 2 (by omega); obtain ⟨b3, m3, d3, f3⟩ := (texts_sl ht) 3 (by omega); obtain ⟨b4, m4, d4, f4⟩ := (texts_sl ht) 4 (by omega); obtain ⟨b5, m5, d5, f5⟩ := (texts_sl ht) 5 (by omega); obtain ⟨b6, m6, d6, f6⟩ := (texts_sl ht) 6 (by omega); obtain ⟨b7, m7, d7, f7⟩ := (texts_sl ht) 7 (by omega)
    have hX2 : agg8 u = .agg #[.slice b0 m0 d0, .slice b1 m1 d1, .slice b2 m2 d2, .slice b3 m3 d3, .slice b4 m4 d4, .slice b5 m5 d5, .slice b6 m6 d6, .slice b7 m7 d7] := (by unfold agg8; rw [f0, f1, f2, f3, f4, f5, f6, f7])
    rw [hX2]
    have HE := Lib.hid (And.intro f0 (And.intro f1 (And.intro f2 (And.intro f3 (And.intro f4 (And.intro f5 (And.intro f6 f7)))))))
    clear ht hnil hfr bb2 hX2 f0 f1 f2 f3 f4 f5 f6 f7
    go_wp2_with fail
    refine hK.out _ _ ?_ (fun hHeld => ?_)
    · exact HX.out _ B2.out
    clear hK K
    try simp only [Act.put, List.setIfInBounds_toArray, List.set_cons_zero, List.set_cons_succ]
    refine wpAnyH_take (i := 7) (oi := { dst := some 21, op := Op.move (Operand.tmp 20), type := 4, pos := "conf.go:83", after := #[{ on := 6, ground := Ground.data }, { on := 5, ground := Ground.chain }], guard := none }) (v := ?_) rfl (by kernel_rfl) (by kernel_rfl) (by kernel_rfl) (fun _ _ _ h => h) (Or.inl ⟨by rfl, ?_⟩) (by assumption) ?_
    rotate_left 1
    · (intro w hSw; (try dsimp only at hSw); go_simp; (try with_reducible rfl))
    try simp only [Act.put, List.setIfInBounds_toArray, List.set_cons_zero, List.set_cons_succ]
    refine wpAnyH_take (i := 8) (oi := { dst := some 22, op := Op.move (Operand.tmp 8), type := 4, pos := "conf.go:83", after := #[{ on := 7, ground := Ground.guard }], guard := some (7, true) }) (v := ?_) rfl (by kernel_rfl) (by kernel_rfl) (by kernel_rfl) (fun _ _ _ h => h) (Or.inl ⟨by rfl, ?_⟩) (by assumption) ?_
    rotate_left 1
    · (intro w hSw; (try dsimp only at hSw); go_simp; (try with_reducible rfl))
    try simp only [Act.put, List.setIfInBounds_toArray, List.set_cons_zero, List.set_cons_succ]
    refine wpAnyH_take (i := 9) (oi := { dst := some 23, op := Op.pick (Operand.tmp 21) (Operand.tmp 22) (Operand.const (Value.bool false)), type := 4, pos := "conf.go:83", after := #[{ on := 7, ground := Ground.data }, { on := 8, ground := Ground.data }], guard := none }) (v := ?_) rfl (by kernel_rfl) (by kernel_rfl) (by kernel_rfl) (fun _ _ _ h => h) (Or.inl ⟨by rfl, ?_⟩) (by assumption) ?_
    rotate_left 1
    · (intro w hSw; (try dsimp only at hSw); go_simp; (try with_reducible rfl))
    try simp only [Act.put, List.setIfInBounds_toArray, List.set_cons_zero, List.set_cons_succ]
    refine wpAnyH_take (i := 10) (oi := { dst := some 24, op := Op.move (Operand.tmp 23), type := 4, pos := "conf.go:83", after := #[{ on := 9, ground := Ground.data }, { on := 7, ground := Ground.chain }], guard := none }) (v := ?_) rfl (by kernel_rfl) (by kernel_rfl) (by kernel_rfl) (fun _ _ _ h => h) (Or.inl ⟨by rfl, ?_⟩) (by assumption) ?_
    rotate_left 1
    · (intro w hSw; (try dsimp only at hSw); go_simp; (try with_reducible rfl))
    try simp only [Act.put, List.setIfInBounds_toArray, List.set_cons_zero, List.set_cons_succ]
    refine wpAnyH_take (i := 11) (oi := { dst := some 25, op := Op.fieldAddr 51 (Operand.tmp 3) 11, type := 0, pos := "conf.go:83", after := #[{ on := 10, ground := Ground.guard }], guard := some (10, true) }) (v := ?_) rfl (by kernel_rfl) (by kernel_rfl) (by kernel_rfl) (fun _ _ _ h => h) (Or.inl ⟨by rfl, ?_⟩) (by assumption) ?_
    rotate_left 1
    · (intro w hSw; (try dsimp only at hSw); go_simp; (try with_reducible rfl))
    try simp only [Act.put, List.setIfInBounds_toArray, List.set_cons_zero, List.set_cons_succ]
    refine wpAnyH_take (i := 12) (oi := { dst := some 26, op := Op.load 4 (Operand.tmp 25), type := 4, pos := "conf.go:83", after := #[{ on := 11, ground := Ground.data }, { on := 10, ground := Ground.guard }], guard := some (10, true) }) (v := ?_) rfl (by kernel_rfl) (by kernel_rfl) (by kernel_rfl) (fun _ _ _ h => h) (Or.inl ⟨by rfl, ?_⟩) (by assumption) ?_
    rotate_left 1
    · (intro w hSw; (try dsimp only at hSw); go_simp; (try with_reducible rfl))
    try simp only [Act.put, List.setIfInBounds_toArray, List.set_cons_zero, List.set_cons_succ]
    refine wpAnyH_take (i := 13) (oi := { dst := some 27, op := Op.pick (Operand.tmp 24) (Operand.tmp 26) (Operand.const (Value.bool false)), type := 4, pos := "conf.go:83", after := #[{ on := 10, ground := Ground.data }, { on := 12, ground := Ground.data }], guard := none }) (v := ?_) rfl (by kernel_rfl) (by kernel_rfl) (by kernel_rfl) (fun _ _ _ h => h) (Or.inl ⟨by rfl, ?_⟩) (by assumption) ?_
    rotate_left 1
    · (intro w hSw; (try dsimp only at hSw); go_simp; (try with_reducible rfl))
    try simp only [Act.put, List.setIfInBounds_toArray, List.set_cons_zero, List.set_cons_succ]
    refine wpAnyH_take (i := 15) (oi := { dst := some 29, op := Op.move (Operand.tmp 28), type := 4, pos := "conf.go:83", after := #[{ on := 14, ground := Ground.data }, { on := 10, ground := Ground.chain }], guard := none }) (v := ?_) rfl (by kernel_rfl) (by kernel_rfl) (by kernel_rfl) (fun _ _ _ h => h) (Or.inl ⟨by rfl, ?_⟩) (by assumption) ?_
    rotate_left 1
    · (intro w hSw; (try dsimp only at hSw); go_simp; (try with_reducible rfl))
    try simp only [Act.put, List.setIfInBounds_toArray, List.set_cons_zero, List.set_cons_succ]
    refine wpAnyH_take (i := 16) (oi := { dst := some 30, op := Op.move (Operand.tmp 8), type := 4, pos := "conf.go:83", after := #[{ on := 15, ground := Ground.guard }], guard := some (15, true) }) (v := ?_) rfl (by kernel_rfl) (by kernel_rfl) (by kernel_rfl) (fun _ _ _ h => h) (Or.inl ⟨by rfl, ?_⟩) (by assumption) ?_
    rotate_left 1
    · (intro w hSw; (try dsimp only at hSw); go_simp; (try with_reducible rfl))
    try simp only [Act.put, List.setIfInBounds_toArray, List.set_cons_zero, List.set_cons_succ]
    refine wpAnyH_take (i := 17) (oi := { dst := some 31, op := Op.pick (Operand.tmp 29) (Operand.tmp 30) (Operand.const (Value.bool false)), type := 4, pos := "conf.go:83", after := #[{ on := 15, ground := Ground.data }, { on := 16, ground := Ground.data }], guard := none }) (v := ?_) rfl (by kernel_rfl) (by kernel_rfl) (by kernel_rfl) (fun _ _ _ h => h) (Or.inl ⟨by rfl, ?_⟩) (by assumption) ?_
    rotate_left 1
    · (intro w hSw; (try dsimp only at hSw); go_simp; (try with_reducible rfl))
    try simp only [Act.put, List.setIfInBounds_toArray, List.set_cons_zero, List.set_cons_succ]
    refine wpAnyH_take (i := 20) (oi := { dst := some 34, op := Op.move (Operand.tmp 33), type := 4, pos := "conf.go:83", after := #[{ on := 19, ground := Ground.data }, { on := 15, ground := Ground.chain }], guard := none }) (v := ?_) rfl (by kernel_rfl) (by kernel_rfl) (by kernel_rfl) (fun _ _ _ h => h) (Or.inl ⟨by rfl, ?_⟩) (by assumption) ?_
    rotate_left 1
    · (intro w hSw; (try dsimp only at hSw); go_simp; (try with_reducible rfl))
    try simp only [Act.put, List.setIfInBounds_toArray, List.set_cons_zero, List.set_cons_succ]
    refine wpAnyH_take (i := 21) (oi := { dst := some 35, op := Op.move (Operand.tmp 8), type := 4, pos := "conf.go:83", after := #[{ on := 20, ground := Ground.guard }], guard := some (20, true) }) (v := undef) rfl (by kernel_rfl) (by kernel_rfl) (by kernel_rfl) (fun _ _ _ h => h) (Or.inr ⟨by rfl, rfl⟩) (by assumption) ?_
    try simp only [Act.put, List.setIfInBounds_toArray, List.set_cons_zero, List.set_cons_succ]
    refine wpAnyH_take (i := 22) (oi := { dst := some 36, op := Op.pick (Operand.tmp 34) (Operand.tmp 35) (Operand.const (Value.bool false)), type := 4, pos := "conf.go:83", after := #[{ on := 20, ground := Ground.data }, { on := 21, ground := Ground.data }], guard := none }) (v := ?_) rfl (by kernel_rfl) (by kernel_rfl) (by kernel_rfl) (fun _ _ _ h => h) (Or.inl ⟨by rfl, ?_⟩) (by assumption) ?_
    rotate_left 1
    · (intro w hSw; (try dsimp only at hSw); go_simp; (try with_reducible rfl))
    try simp only [Act.put, List.setIfInBounds_toArray, List.set_cons_zero, List.set_cons_succ]
    refine wpAnyH_take (i := 24) (oi := { dst := some 38, op := Op.move (Operand.tmp 37), type := 4, pos := "conf.go:83", after := #[{ on := 23, ground := Ground.data }, { on := 20, ground := Ground.chain }], guard := none }) (v := ?_) rfl (by kernel_rfl) (by kernel_rfl) (by kernel_rfl) (fun _ _ _ h => h) (Or.inl ⟨by rfl, ?_⟩) (by assumption) ?_
    rotate_left 1
    · (intro w hSw; (try dsimp only at hSw); go_simp; (try with_reducible rfl))
    try simp only [Act.put, List.setIfInBounds_toArray, List.set_cons_zero, List.set_cons_succ]
    refine wpAnyH_take (i := 25) (oi := { dst := some 39, op := Op.fieldAddr 51 (Operand.tmp 3) 12, type := 0, pos := "conf.go:83", after := #[{ on := 24, ground := Ground.guard }], guard := some (24, true) }) (v := ?_) rfl (by kernel_rfl) (by kernel_rfl) (by kernel_rfl) (fun _ _ _ h => h) (Or.inl ⟨by rfl, ?_⟩) (by assumption) ?_
    rotate_left 1
    · (intro w hSw; (try dsimp only at hSw); go_simp; (try with_reducible rfl))
    try simp only [Act.put, List.setIfInBounds_toArray, List.set_cons_zero, List.set_cons_succ]
    refine wpAnyH_take (i := 26) (oi := { dst := some 40, op := Op.load 4 (Operand.tmp 39), type := 4, pos := "conf.go:83", after := #[{ on := 25, ground := Ground.data }, { on := 24, ground := Ground.guard }], guard := some (24, true) }) (v := ?_) rfl (by kernel_rfl) (by kernel_rfl) (by kernel_rfl) (fun _ _ _ h => h) (Or.inl ⟨by rfl, ?_⟩) (by assumption) ?_
    rotate_left 1
    · (intro w hSw; (try dsimp only at hSw); go_simp; (try with_reducible rfl))
    try simp only [Act.put, List.setIfInBounds_toArray, List.set_cons_zero, List.set_cons_succ]
    refine wpAnyH_take (i := 27) (oi := { dst := some 41, op := Op.pick (Operand.tmp 38) (Operand.tmp 40) (Operand.const (Value.bool false)), type := 4, pos := "conf.go:83", after := #[{ on := 24, ground := Ground.data }, { on := 26, ground := Ground.data }], guard := none }) (v := ?_) rfl (by kernel_rfl) (by kernel_rfl) (by kernel_rfl) (fun _ _ _ h => h) (Or.inl ⟨by rfl, ?_⟩) (by assumption) ?_
    rotate_left 1
    · (intro w hSw; (try dsimp only at hSw); go_simp; (try with_reducible rfl))
    try simp only [Act.put, List.setIfInBounds_toArray, List.set_cons_zero, List.set_cons_succ]
    refine wpAnyH_take (i := 28) (oi := { dst := some 42, op := Op.build 56 #[(0, Operand.tmp 16), (1, Operand.tmp 19), (3, Operand.tmp 27), (5, Operand.tmp 31), (6, Operand.tmp 36), (7, Operand.tmp 41)], type := 56, pos := "conf.go:83", after := #[{ on := 2, ground := Ground.data }, { on := 5, ground := Ground.data }, { on := 13, ground := Ground.data }, { on := 17, ground := Ground.data }, { on := 22, ground := Ground.data }, { on := 27, ground := Ground.data }], guard := none }) (v := ?_) rfl (by kernel_rfl) (by kernel_rfl) (by kernel_rfl) (fun _ _ _ h => h) (Or.inl ⟨by rfl, ?_⟩) (by assumption) ?_
    rotate_left 1
    · (intro w hSw; (try dsimp only at hSw); go_simp; (try with_reducible rfl))
    try simp only [Act.put, List.setIfInBounds_toArray, List.set_cons_zero, List.set_cons_succ]
    obtain ⟨x0, x3, x4, x5, x6, x7, x8, x9, x10, x18, x19⟩ := HX.out _ B2.out
    have hI : w2.heap[w.heap.size + 1]? = some (.cells #[.string ⟨#[]⟩, .slice none 0 0, .slice none 0 0, .slice none 0 0, .slice none 0 0, .slice none 0 0, .slice none 0 0, .slice none 0 0, .slice none 0 0, .slice none 0 0, .slice none 0 0, .bool false, .bool false, .bool false, .bool false, .bool false] 56 (0, 0)) := (B2.out.block _ HI.out.lt).trans HI.out
    have HRw := Lib.hid (setRow_heap w2 (w.heap.size + 1) #[.string ⟨#[]⟩, .slice none 0 0, .slice none 0 0, .slice none 0 0, .slice none 0 0, .slice none 0 0, .slice none 0 0, .slice none 0 0, .slice none 0 0, .slice none 0 0, .slice none 0 0, .bool false, .bool false, .bool false, .bool false, .bool false] #[.string C, .slice b0 m0 d0, .slice b1 m1 d1, .slice b2 m2 d2, .slice b3 m3 d3, .slice b4 m4 d4, .slice b5 m5 d5, .slice b6 m6 d6, .slice b7 m7 d7, .slice none 0 0, .slice none 0 0, .bool ex, .bool false, .bool true, .bool false, .bool gu] 56 (0, 0) hI)
    refine wpAnyH_ready (rs := [29]) (by kernel_rfl) (by simp) ?_
    refine AllReadyH.cons rfl (fun K hK => ?_) AllReadyH.nil
    refine step_store_row15 rfl 56 _ _ rfl (w.heap.size + 1) #[.string C, .slice b0 m0 d0, .slice b1 m1 d1, .slice b2 m2 d2, .slice b3 m3 d3, .slice b4 m4 d4, .slice b5 m5 d5, .slice b6 m6 d6, .slice b7 m7 d7, .slice none 0 0, .slice none 0 0, .bool ex, .bool false, .bool true, .bool false, .bool gu] rfl rfl 56 #[.string ⟨#[]⟩, .slice none 0 0, .slice none 0 0, .slice none 0 0, .slice none 0 0, .slice none 0 0, .slice none 0 0, .slice none 0 0, .slice none 0 0, .slice none 0 0, .slice none 0 0, .bool false, .bool false, .bool false, .bool false, .bool false] hI (by exact sizeInit25) (by rfl) (by simp [Value.oneCell']) ?_
    refine hK.out _ _ ?_ (fun hHeld => ?_)
    · exact ⟨(cell_setRow_other w2 (w.heap.size + 1) _ ⟨w.heap.size, 0, none⟩ (by show w.heap.size ≠ w.heap.size + 1; omega)).trans x0, (cell_setRow_other w2 (w.heap.size + 1) _ ⟨w.heap.size, 3, none⟩ (by show w.heap.size ≠ w.heap.size + 1; omega)).trans x3, (cell_setRow_other w2 (w.heap.size + 1) _ ⟨w.heap.size, 4, none⟩ (by show w.heap.size ≠ w.heap.size + 1; omega)).trans x4, (cell_setRow_other w2 (w.heap.size + 1) _ ⟨w.heap.size, 5, none⟩ (by show w.heap.size ≠ w.heap.size + 1; omega)).trans x5, (cell_setRow_other w2 (w.heap.size + 1) _ ⟨w.heap.size, 6, none⟩ (by show w.heap.size ≠ w.heap.size + 1; omega)).trans x6, (cell_setRow_other w2 (w.heap.size + 1) _ ⟨w.heap.size, 7, none⟩ (by show w.heap.size ≠ w.heap.size + 1; omega)).trans x7, (cell_setRow_other w2 (w.heap.size + 1) _ ⟨w.heap.size, 8, none⟩ (by show w.heap.size ≠ w.heap.size + 1; omega)).trans x8, (cell_setRow_other w2 (w.heap.size + 1) _ ⟨w.heap.size, 9, none⟩ (by show w.heap.size ≠ w.heap.size + 1; omega)).trans x9, (cell_setRow_other w2 (w.heap.size + 1) _ ⟨w.heap.size, 10, none⟩ (by show w.heap.size ≠ w.heap.size + 1; omega)).trans x10, (cell_setRow_other w2 (w.heap.size + 1) _ ⟨w.heap.size, 18, none⟩ (by show w.heap.size ≠ w.heap.size + 1; omega)).trans x18, (cell_setRow_other w2 (w.heap.size + 1) _ ⟨w.heap.size, 19, none⟩ (by show w.heap.size ≠ w.heap.size + 1; omega)).trans x19⟩
    clear hK K hHeld x0 x3 x4 x5 x6 x7 x8 x9 x10 x18 x19
    refine wpAnyH_done (by kernel_rfl) ?_ _
    go_wp2_with fail
    refine bodyPost_ret (results_cell_row rfl _ _ (w.heap.size + 1) _ #[.string C, .slice b0 m0 d0, .slice b1 m1 d1, .slice b2 m2 d2, .slice b3 m3 d3, .slice b4 m4 d4, .slice b5 m5 d5, .slice b6 m6 d6, .slice b7 m7 d7, .slice none 0 0, .slice none 0 0, .bool ex, .bool false, .bool true, .bool false, .bool gu] (0, 0) _ rfl HRw.out Tryd.underlying56 rfl (by exact sizeInit25)) rfl ?_
    obtain ⟨e0, e1, e2, e3, e4, e5, e6, e7⟩ := HE.out
    refine ⟨u, by unfold initV; rw [e0, e1, e2, e3, e4, e5, e6, e7]; rfl, fun k hk => texts_set (HT.out k hk) (fun hne b hb => ?_) _, below_setRow (HB.out.trans (B2.out.mono HB.out.size)) (by omega) _⟩
    have h1 := HFr.out k hk (fun e => hne (by rw [e]; rfl)) b hb
    have h2 := B1.out.size
    have h3 := HS0.out
    omega
  · refine wp_region_held_drew (S := fun w' => w'.cell? ⟨w.heap.size, 0, none⟩ = some (.bool true) ∧ w'.cell? ⟨w.heap.size, 3, none⟩ = some (.slice c.a0 c.n0 c.c0) ∧ w'.cell? ⟨w.heap.size, 4, none⟩ = some (.slice c.a1 c.n1 c.c1) ∧ w'.cell? ⟨w.heap.size, 5, none⟩ = some (.slice c.a2 c.n2 c.c2) ∧ w'.cell? ⟨w.heap.size, 6, none⟩ = some (.slice c.a3 c.n3 c.c3) ∧ w'.cell? ⟨w.heap.size, 7, none⟩ = some (.slice c.a4 c.n4 c.c4) ∧ w'.cell? ⟨w.heap.size, 8, none⟩ = some (.slice c.a5 c.n5 c.c5) ∧ w'.cell? ⟨w.heap.size, 9, none⟩ = some (.slice c.a6 c.n6 c.c6) ∧ w'.cell? ⟨w.heap.size, 10, none⟩ = some (.slice c.a7 c.n7 c.c7) ∧ w'.cell? ⟨w.heap.size, 18, none⟩ = some (.bool ex) ∧ w'.cell? ⟨w.heap.size, 19, none⟩ = some (.bool gu)) (by kernel_rfl) ?_ (fun hHeld => ?_)
    · exact HX.out _ BR.out
    refine wpAnyH_take (i := 0) (oi := { dst := some 14, op := Op.move (Operand.tmp 1), type := 3, pos := "conf.go:83", after := #[], guard := none }) (v := ?_) rfl (by kernel_rfl) (by kernel_rfl) (by kernel_rfl) (fun _ _ _ h => h) (Or.inl ⟨by rfl, ?_⟩) (by assumption) ?_
    rotate_left 1
    · (intro w hSw; (try dsimp only at hSw); go_simp; (try with_reducible rfl))
    try simp only [Act.put, List.setIfInBounds_toArray, List.set_cons_zero, List.set_cons_succ]
    refine wpAnyH_take (i := 1) (oi := { dst := some 15, op := Op.move (Operand.tmp 2), type := 3, pos := "conf.go:83", after := #[], guard := none }) (v := ?_) rfl (by kernel_rfl) (by kernel_rfl) (by kernel_rfl) (fun _ _ _ h => h) (Or.inl ⟨by rfl, ?_⟩) (by assumption) ?_
    rotate_left 1
    · (intro w hSw; (try dsimp only at hSw); go_simp; (try with_reducible rfl))
    try simp only [Act.put, List.setIfInBounds_toArray, List.set_cons_zero, List.set_cons_succ]
    refine wpAnyH_take (i := 3) (oi := { dst := some 17, op := Op.fieldAddr 51 (Operand.tmp 3) 3, type := 0, pos := "conf.go:83", after := #[], guard := none }) (v := ?_) rfl (by kernel_rfl) (by kernel_rfl) (by kernel_rfl) (fun _ _ _ h => h) (Or.inl ⟨by rfl, ?_⟩) (by assumption) ?_
    rotate_left 1
    · (intro w hSw; (try dsimp only at hSw); go_simp; (try with_reducible rfl))
    try simp only [Act.put, List.setIfInBounds_toArray, List.set_cons_zero, List.set_cons_succ]
    refine wpAnyH_take (i := 4) (oi := { dst := some 18, op := Op.load 46 (Operand.tmp 17), type := 46, pos := "conf.go:83", after := #[{ on := 3, ground := Ground.data }], guard := none }) (v := ?_) rfl (by kernel_rfl) (by kernel_rfl) (by kernel_rfl) (fun _ _ _ h => h) (Or.inl ⟨by rfl, ?_⟩) (by assumption) ?_
    rotate_left 1
    · (intro w hSw; (try dsimp only at hSw); go_simp; (try with_reducible rfl))
    try simp only [Act.put, List.setIfInBounds_toArray, List.set_cons_zero, List.set_cons_succ]
    refine wpAnyH_take (i := 6) (oi := { dst := some 20, op := Op.move (Operand.tmp 7), type := 4, pos := "conf.go:83", after := #[], guard := none }) (v := ?_) rfl (by kernel_rfl) (by kernel_rfl) (by kernel_rfl) (fun _ _ _ h => h) (Or.inl ⟨by rfl, ?_⟩) (by assumption) ?_
    rotate_left 1
    · (intro w hSw; (try dsimp only at hSw); go_simp; (try with_reducible rfl))
    try simp only [Act.put, List.setIfInBounds_toArray, List.set_cons_zero, List.set_cons_succ]
    refine wpAnyH_take (i := 14) (oi := { dst := some 28, op := Op.move (Operand.tmp 7), type := 4, pos := "conf.go:83", after := #[], guard := none }) (v := ?_) rfl (by kernel_rfl) (by kernel_rfl) (by kernel_rfl) (fun _ _ _ h => h) (Or.inl ⟨by rfl, ?_⟩) (by assumption) ?_
    rotate_left 1
    · (intro w hSw; (try dsimp only at hSw); go_simp; (try with_reducible rfl))
    try simp only [Act.put, List.setIfInBounds_toArray, List.set_cons_zero, List.set_cons_succ]
    refine wpAnyH_take (i := 18) (oi := { dst := some 32, op := Op.fieldAddr 51 (Operand.tmp 3) 0, type := 0, pos := "conf.go:83", after := #[], guard := none }) (v := ?_) rfl (by kernel_rfl) (by kernel_rfl) (by kernel_rfl) (fun _ _ _ h => h) (Or.inl ⟨by rfl, ?_⟩) (by assumption) ?_
    rotate_left 1
    · (intro w hSw; (try dsimp only at hSw); go_simp; (try with_reducible rfl))
    try simp only [Act.put, List.setIfInBounds_toArray, List.set_cons_zero, List.set_cons_succ]
    refine wpAnyH_take (i := 19) (oi := { dst := some 33, op := Op.load 4 (Operand.tmp 32), type := 4, pos := "conf.go:83", after := #[{ on := 18, ground := Ground.data }], guard := none }) (v := ?_) rfl (by kernel_rfl) (by kernel_rfl) (by kernel_rfl) (fun _ _ _ h => h) (Or.inl ⟨by rfl, ?_⟩) (by assumption) ?_
    rotate_left 1
    · (intro w hSw; (try dsimp only at hSw); go_simp; (try with_reducible rfl))
    try simp only [Act.put, List.setIfInBounds_toArray, List.set_cons_zero, List.set_cons_succ]
    refine wpAnyH_take (i := 23) (oi := { dst := some 37, op := Op.move (Operand.tmp 7), type := 4, pos := "conf.go:83", after := #[], guard := none }) (v := ?_) rfl (by kernel_rfl) (by kernel_rfl) (by kernel_rfl) (fun _ _ _ h => h) (Or.inl ⟨by rfl, ?_⟩) (by assumption) ?_
    rotate_left 1
    · (intro w hSw; (try dsimp only at hSw); go_simp; (try with_reducible rfl))
    try simp only [Act.put, List.setIfInBounds_toArray, List.set_cons_zero, List.set_cons_succ]
    refine wpAnyH_ready (rs := [2]) (by kernel_rfl) (by simp) ?_
    refine AllReadyH.cons (o := { dst := some 16, op := Op.call { callee := Callee.value (Operand.func 39), args := #[Operand.tmp 14, Operand.tmp 15], argTypes := #[3, 3] }, type := 9, pos := "conf.go:84", after := #[{ on := 0, ground := Ground.data }, { on := 1, ground := Ground.data }], guard := none }) rfl (fun K hK => ?_) AllReadyH.nil
    go_simp
    go_at_call 39
    with_reducible refine (HK.out _).mono ?_
    rintro e w1 ⟨rfl, bb1⟩
    have B1 := Lib.hid (BR.out.trans (bb1.mono BR.out.size))
    clear bb1
    go_wp2_with fail
    refine hK.out _ _ ?_ (fun hHeld => ?_)
    · exact HX.out _ B1.out
    clear hK K
    try simp only [Act.put, List.setIfInBounds_toArray, List.set_cons_zero, List.set_cons_succ]
    refine wpAnyH_ready (rs := [5]) (by kernel_rfl) (by simp) ?_
    refine AllReadyH.cons (o := { dst := some 19, op := Op.call { callee := Callee.value (Operand.func 40), args := #[Operand.tmp 18], argTypes := #[46] }, type := 46, pos := "conf.go:85", after := #[{ on := 4, ground := Ground.data }, { on := 2, ground := Ground.chain }], guard := none }) rfl (fun K hK => ?_) AllReadyH.nil
    go_simp
    go_at_call 40
    with_reducible refine (HC.out _ (HB.out.trans (B1.out.mono HB.out.size))).mono ?_
    rintro e w2 ⟨u, rfl, ht, hnil, hfr, bb2⟩
    have B2 := Lib.hid (B1.out.trans (bb2.mono B1.out.size))
    have HT := Lib.hid ht
    have HFr := Lib.hid hfr
    obtain ⟨b0, m0, d0, f0⟩ := (texts_sl ht) 0 (by omega); obtain ⟨b1, m1, d1, f1⟩ := (texts_sl ht) 1 (by omega); obtain ⟨b2, m2, d2, f2⟩ := (texts_sl ht) 2 (by omega); obtain ⟨b3, m3, d3, f3⟩ := (texts_sl ht) 3 (by omega); obtain ⟨b4, m4, d4, f4⟩ := (texts_sl ht) 4 (by omega); obtain ⟨b5, m5, d5, f5⟩ := (texts_sl ht) 5 (by omega); obtain ⟨b6, m6, d6, f6⟩ := (texts_sl ht) 6 (by omega); obtain ⟨b7, m7, d7, f7⟩ := (texts_sl ht) 7 (by omega)
    have hX2 : agg8 u = .agg #[.slice b0 m0 d0, .slice b1 m1 d1, .slice b2 m2 d2, .slice b3 m3 d3, .slice b4 m4 d4, .slice b5 m5 d5, .slice b6 m6 d6, .slice b7 m7 d7] := (by unfold agg8; rw [f0, f1, f2, f3, f4, f5, f6, f7])
    rw [hX2]
    have HE := Lib.hid (And.intro f0 (And.intro f1 (And.intro f2 (And.intro f3 (And.intro f4 (And.intro f5 (And.intro f6 f7)))))))
    clear ht hnil hfr bb2 hX2 f0 f1 f2 f3 f4 f5 f6 f7
    go_wp2_with fail
    refine hK.out _ _ ?_ (fun hHeld => ?_)
    · exact HX.out _ B2.out
    clear hK K
    try simp only [Act.put, List.setIfInBounds_toArray, List.set_cons_zero, List.set_cons_succ]
    refine wpAnyH_take (i := 7) (oi := { dst := some 21, op := Op.move (Operand.tmp 20), type := 4, pos := "conf.go:83", after := #[{ on := 6, ground := Ground.data }, { on := 5, ground := Ground.chain }], guard := none }) (v := ?_) rfl (by kernel_rfl) (by kernel_rfl) (by kernel_rfl) (fun _ _ _ h => h) (Or.inl ⟨by rfl, ?_⟩) (by assumption) ?_
    rotate_left 1
    · (intro w hSw; (try dsimp only at hSw); go_simp; (try with_reducible rfl))
    try simp only [Act.put, List.setIfInBounds_toArray, List.set_cons_zero, List.set_cons_succ]
    refine wpAnyH_take (i := 8) (oi := { dst := some 22, op := Op.move (Operand.tmp 8), type := 4, pos := "conf.go:83", after := #[{ on := 7, ground := Ground.guard }], guard := some (7, true) }) (v := undef) rfl (by kernel_rfl) (by kernel_rfl) (by kernel_rfl) (fun _ _ _ h => h) (Or.inr ⟨by rfl, rfl⟩) (by assumption) ?_
    try simp only [Act.put, List.setIfInBounds_toArray, List.set_cons_zero, List.set_cons_succ]
    refine wpAnyH_take (i := 9) (oi := { dst := some 23, op := Op.pick (Operand.tmp 21) (Operand.tmp 22) (Operand.const (Value.bool false)), type := 4, pos := "conf.go:83", after := #[{ on := 7, ground := Ground.data }, { on := 8, ground := Ground.data }], guard := none }) (v := ?_) rfl (by kernel_rfl) (by kernel_rfl) (by kernel_rfl) (fun _ _ _ h => h) (Or.inl ⟨by rfl, ?_⟩) (by assumption) ?_
    rotate_left 1
    · (intro w hSw; (try dsimp only at hSw); go_simp; (try with_reducible rfl))
    try simp only [Act.put, List.setIfInBounds_toArray, List.set_cons_zero, List.set_cons_succ]
    refine wpAnyH_take (i := 10) (oi := { dst := some 24, op := Op.move (Operand.tmp 23), type := 4, pos := "conf.go:83", after := #[{ on := 9, ground := Ground.data }, { on := 7, ground := Ground.chain }], guard := none }) (v := ?_) rfl (by kernel_rfl) (by kernel_rfl) (by kernel_rfl) (fun _ _ _ h => h) (Or.inl ⟨by rfl, ?_⟩) (by assumption) ?_
    rotate_left 1
    · (intro w hSw; (try dsimp only at hSw); go_simp; (try with_reducible rfl))
    try simp only [Act.put, List.setIfInBounds_toArray, List.set_cons_zero, List.set_cons_succ]
    refine wpAnyH_take (i := 11) (oi := { dst := some 25, op := Op.fieldAddr 51 (Operand.tmp 3) 11, type := 0, pos := "conf.go:83", after := #[{ on := 10, ground := Ground.guard }], guard := some (10, true) }) (v := undef) rfl (by kernel_rfl) (by kernel_rfl) (by kernel_rfl) (fun _ _ _ h => h) (Or.inr ⟨by rfl, rfl⟩) (by assumption) ?_
    try simp only [Act.put, List.setIfInBounds_toArray, List.set_cons_zero, List.set_cons_succ]
    refine wpAnyH_take (i := 12) (oi := { dst := some 26, op := Op.load 4 (Operand.tmp 25), type := 4, pos := "conf.go:83", after := #[{ on := 11, ground := Ground.data }, { on := 10, ground := Ground.guard }], guard := some (10, true) }) (v := undef) rfl (by kernel_rfl) (by kernel_rfl) (by kernel_rfl) (fun _ _ _ h => h) (Or.inr ⟨by rfl, rfl⟩) (by assumption) ?_
    try simp only [Act.put, List.setIfInBounds_toArray, List.set_cons_zero, List.set_cons_succ]
    refine wpAnyH_take (i := 13) (oi := { dst := some 27, op := Op.pick (Operand.tmp 24) (Operand.tmp 26) (Operand.const (Value.bool false)), type := 4, pos := "conf.go:83", after := #[{ on := 10, ground := Ground.data }, { on := 12, ground := Ground.data }], guard := none }) (v := ?_) rfl (by kernel_rfl) (by kernel_rfl) (by kernel_rfl) (fun _ _ _ h => h) (Or.inl ⟨by rfl, ?_⟩) (by assumption) ?_
    rotate_left 1
    · (intro w hSw; (try dsimp only at hSw); go_simp; (try with_reducible rfl))
    try simp only [Act.put, List.setIfInBounds_toArray, List.set_cons_zero, List.set_cons_succ]
    refine wpAnyH_take (i := 15) (oi := { dst := some 29, op := Op.move (Operand.tmp 28), type := 4, pos := "conf.go:83", after := #[{ on := 14, ground := Ground.data }, { on := 10, ground := Ground.chain }], guard := none }) (v := ?_) rfl (by kernel_rfl) (by kernel_rfl) (by kernel_rfl) (fun _ _ _ h => h) (Or.inl ⟨by rfl, ?_⟩) (by assumption) ?_
    rotate_left 1
    · (intro w hSw; (try dsimp only at hSw); go_simp; (try with_reducible rfl))
    try simp only [Act.put, List.setIfInBounds_toArray, List.set_cons_zero, List.set_cons_succ]
    refine wpAnyH_take (i := 16) (oi := { dst := some 30, op := Op.move (Operand.tmp 8), type := 4, pos := "conf.go:83", after := #[{ on := 15, ground := Ground.guard }], guard := some (15, true) }) (v := undef) rfl (by kernel_rfl) (by kernel_rfl) (by kernel_rfl) (fun _ _ _ h => h) (Or.inr ⟨by rfl, rfl⟩) (by assumption) ?_
    try simp only [Act.put, List.setIfInBounds_toArray, List.set_cons_zero, List.set_cons_succ]
    refine wpAnyH_take (i := 17) (oi := { dst := some 31, op := Op.pick (Operand.tmp 29) (Operand.tmp 30) (Operand.const (Value.bool false)), type := 4, pos := "conf.go:83", after := #[{ on := 15, ground := Ground.data }, { on := 16, ground := Ground.data }], guard := none }) (v := ?_) rfl (by kernel_rfl) (by kernel_rfl) (by kernel_rfl) (fun _ _ _ h => h) (Or.inl ⟨by rfl, ?_⟩) (by assumption) ?_
    rotate_left 1
    · (intro w hSw; (try dsimp only at hSw); go_simp; (try with_reducible rfl))
    try simp only [Act.put, List.setIfInBounds_toArray, List.set_cons_zero, List.set_cons_succ]
    refine wpAnyH_take (i := 20) (oi := { dst := some 34, op := Op.move (Operand.tmp 33), type := 4, pos := "conf.go:83", after := #[{ on := 19, ground := Ground.data }, { on := 15, ground := Ground.chain }], guard := none }) (v := ?_) rfl (by kernel_rfl) (by kernel_rfl) (by kernel_rfl) (fun _ _ _ h => h) (Or.inl ⟨by rfl, ?_⟩) (by assumption) ?_
    rotate_left 1
    · (intro w hSw; (try dsimp only at hSw); go_simp; (try with_reducible rfl))
    try simp only [Act.put, List.setIfInBounds_toArray, List.set_cons_zero, List.set_cons_succ]
    refine wpAnyH_take (i := 21) (oi := { dst := some 35, op := Op.move (Operand.tmp 8), type := 4, pos := "conf.go:83", after := #[{ on := 20, ground := Ground.guard }], guard := some (20, true) }) (v := ?_) rfl (by kernel_rfl) (by kernel_rfl) (by kernel_rfl) (fun _ _ _ h => h) (Or.inl ⟨by rfl, ?_⟩) (by assumption) ?_
    rotate_left 1
    · (intro w hSw; (try dsimp only at hSw); go_simp; (try with_reducible rfl))
    try simp only [Act.put, List.setIfInBounds_toArray, List.set_cons_zero, List.set_cons_succ]
    refine wpAnyH_take (i := 22) (oi := { dst := some 36, op := Op.pick (Operand.tmp 34) (Operand.tmp 35) (Operand.const (Value.bool false)), type := 4, pos := "conf.go:83", after := #[{ on := 20, ground := Ground.data }, { on := 21, ground := Ground.data }], guard := none }) (v := ?_) rfl (by kernel_rfl) (by kernel_rfl) (by kernel_rfl) (fun _ _ _ h => h) (Or.inl ⟨by rfl, ?_⟩) (by assumption) ?_
    rotate_left 1
    · (intro w hSw; (try dsimp only at hSw); go_simp; (try with_reducible rfl))
    try simp only [Act.put, List.setIfInBounds_toArray, List.set_cons_zero, List.set_cons_succ]
    refine wpAnyH_take (i := 24) (oi := { dst := some 38, op := Op.move (Operand.tmp 37), type := 4, pos := "conf.go:83", after := #[{ on := 23, ground := Ground.data }, { on := 20, ground := Ground.chain }], guard := none }) (v := ?_) rfl (by kernel_rfl) (by kernel_rfl) (by kernel_rfl) (fun _ _ _ h => h) (Or.inl ⟨by rfl, ?_⟩) (by assumption) ?_
    rotate_left 1
    · (intro w hSw; (try dsimp only at hSw); go_simp; (try with_reducible rfl))
    try simp only [Act.put, List.setIfInBounds_toArray, List.set_cons_zero, List.set_cons_succ]
    refine wpAnyH_take (i := 25) (oi := { dst := some 39, op := Op.fieldAddr 51 (Operand.tmp 3) 12, type := 0, pos := "conf.go:83", after := #[{ on := 24, ground := Ground.guard }], guard := some (24, true) }) (v := undef) rfl (by kernel_rfl) (by kernel_rfl) (by kernel_rfl) (fun _ _ _ h => h) (Or.inr ⟨by rfl, rfl⟩) (by assumption) ?_
    try simp only [Act.put, List.setIfInBounds_toArray, List.set_cons_zero, List.set_cons_succ]
    refine wpAnyH_take (i := 26) (oi := { dst := some 40, op := Op.load 4 (Operand.tmp 39), type := 4, pos := "conf.go:83", after := #[{ on := 25, ground := Ground.data }, { on := 24, ground := Ground.guard }], guard := some (24, true) }) (v := undef) rfl (by kernel_rfl) (by kernel_rfl) (by kernel_rfl) (fun _ _ _ h => h) (Or.inr ⟨by rfl, rfl⟩) (by assumption) ?_
    try simp only [Act.put, List.setIfInBounds_toArray, List.set_cons_zero, List.set_cons_succ]
    refine wpAnyH_take (i := 27) (oi := { dst := some 41, op := Op.pick (Operand.tmp 38) (Operand.tmp 40) (Operand.const (Value.bool false)), type := 4, pos := "conf.go:83", after := #[{ on := 24, ground := Ground.data }, { on := 26, ground := Ground.data }], guard := none }) (v := ?_) rfl (by kernel_rfl) (by kernel_rfl) (by kernel_rfl) (fun _ _ _ h => h) (Or.inl ⟨by rfl, ?_⟩) (by assumption) ?_
    rotate_left 1
    · (intro w hSw; (try dsimp only at hSw); go_simp; (try with_reducible rfl))
    try simp only [Act.put, List.setIfInBounds_toArray, List.set_cons_zero, List.set_cons_succ]
    refine wpAnyH_take (i := 28) (oi := { dst := some 42, op := Op.build 56 #[(0, Operand.tmp 16), (1, Operand.tmp 19), (3, Operand.tmp 27), (5, Operand.tmp 31), (6, Operand.tmp 36), (7, Operand.tmp 41)], type := 56, pos := "conf.go:83", after := #[{ on := 2, ground := Ground.data }, { on := 5, ground := Ground.data }, { on := 13, ground := Ground.data }, { on := 17, ground := Ground.data }, { on := 22, ground := Ground.data }, { on := 27, ground := Ground.data }], guard := none }) (v := ?_) rfl (by kernel_rfl) (by kernel_rfl) (by kernel_rfl) (fun _ _ _ h => h) (Or.inl ⟨by rfl, ?_⟩) (by assumption) ?_
    rotate_left 1
    · (intro w hSw; (try dsimp only at hSw); go_simp; (try with_reducible rfl))
    try simp only [Act.put, List.setIfInBounds_toArray, List.set_cons_zero, List.set_cons_succ]
    obtain ⟨x0, x3, x4, x5, x6, x7, x8, x9, x10, x18, x19⟩ := HX.out _ B2.out
    have hI : w2.heap[w.heap.size + 1]? = some (.cells #[.string ⟨#[]⟩, .slice none 0 0, .slice none 0 0, .slice none 0 0, .slice none 0 0, .slice none 0 0, .slice none 0 0, .slice none 0 0, .slice none 0 0, .slice none 0 0, .slice none 0 0, .bool false, .bool false, .bool false, .bool false, .bool false] 56 (0, 0)) := (B2.out.block _ HI.out.lt).trans HI.out
    have HRw := Lib.hid (setRow_heap w2 (w.heap.size + 1) #[.string ⟨#[]⟩, .slice none 0 0, .slice none 0 0, .slice none 0 0, .slice none 0 0, .slice none 0 0, .slice none 0 0, .slice none 0 0, .slice none 0 0, .slice none 0 0, .slice none 0 0, .bool false, .bool false, .bool false, .bool false, .bool false] #[.string C, .slice b0 m0 d0, .slice b1 m1 d1, .slice b2 m2 d2, .slice b3 m3 d3, .slice b4 m4 d4, .slice b5 m5 d5, .slice b6 m6 d6, .slice b7 m7 d7, .slice none 0 0, .slice none 0 0, .bool false, .bool false, .bool false, .bool false, .bool false] 56 (0, 0) hI)
    refine wpAnyH_ready (rs := [29]) (by kernel_rfl) (by simp) ?_
    refine AllReadyH.cons rfl (fun K hK => ?_) AllReadyH.nil
    refine step_store_row15 rfl 56 _ _ rfl (w.heap.size + 1) #[.string C, .slice b0 m0 d0, .slice b1 m1 d1, .slice b2 m2 d2, .slice b3 m3 d3, .slice b4 m4 d4, .slice b5 m5 d5, .slice b6 m6 d6, .slice b7 m7 d7, .slice none 0 0, .slice none 0 0, .bool false, .bool false, .bool false, .bool false, .bool false] rfl rfl 56 #[.string ⟨#[]⟩, .slice none 0 0, .slice none 0 0, .slice none 0 0, .slice none 0 0, .slice none 0 0, .slice none 0 0, .slice none 0 0, .slice none 0 0, .slice none 0 0, .slice none 0 0, .bool false, .bool false, .bool false, .bool false, .bool false] hI (by exact sizeInit25) (by rfl) (by simp [Value.oneCell']) ?_
    refine hK.out _ _ ?_ (fun hHeld => ?_)
    · exact ⟨(cell_setRow_other w2 (w.heap.size + 1) _ ⟨w.heap.size, 0, none⟩ (by show w.heap.size ≠ w.heap.size + 1; omega)).trans x0, (cell_setRow_other w2 (w.heap.size + 1) _ ⟨w.heap.size, 3, none⟩ (by show w.heap.size ≠ w.heap.size + 1; omega)).trans x3, (cell_setRow_other w2 (w.heap.size + 1) _ ⟨w.heap.size, 4, none⟩ (by show w.heap.size ≠ w.heap.size + 1; omega)).trans x4, (cell_setRow_other w2 (w.heap.size + 1) _ ⟨w.heap.size, 5, none⟩ (by show w.heap.size ≠ w.heap.size + 1; omega)).trans x5, (cell_setRow_other w2 (w.heap.size + 1) _ ⟨w.heap.size, 6, none⟩ (by show w.heap.size ≠ w.heap.size + 1; omega)).trans x6, (cell_setRow_other w2 (w.heap.size + 1) _ ⟨w.heap.size, 7, none⟩ (by show w.heap.size ≠ w.heap.size + 1; omega)).trans x7, (cell_setRow_other w2 (w.heap.size + 1) _ ⟨w.heap.size, 8, none⟩ (by show w.heap.size ≠ w.heap.size + 1; omega)).trans x8, (cell_setRow_other w2 (w.heap.size + 1) _ ⟨w.heap.size, 9, none⟩ (by show w.heap.size ≠ w.heap.size + 1; omega)).trans x9, (cell_setRow_other w2 (w.heap.size + 1) _ ⟨w.heap.size, 10, none⟩ (by show w.heap.size ≠ w.heap.size + 1; omega)).trans x10, (cell_setRow_other w2 (w.heap.size + 1) _ ⟨w.heap.size, 18, none⟩ (by show w.heap.size ≠ w.heap.size + 1; omega)).trans x18, (cell_setRow_other w2 (w.heap.size + 1) _ ⟨w.heap.size, 19, none⟩ (by show w.heap.size ≠ w.heap.size + 1; omega)).trans x19⟩
    clear hK K hHeld x0 x3 x4 x5 x6 x7 x8 x9 x10 x18 x19
    refine wpAnyH_done (by kernel_rfl) ?_ _
    go_wp2_with fail
    refine bodyPost_ret (results_cell_row rfl _ _ (w.heap.size + 1) _ #[.string C, .slice b0 m0 d0, .slice b1 m1 d1, .slice b2 m2 d2, .slice b3 m3 d3, .slice b4 m4 d4, .slice b5 m5 d5, .slice b6 m6 d6, .slice b7 m7 d7, .slice none 0 0, .slice none 0 0, .bool false, .bool false, .bool false, .bool false, .bool false] (0, 0) _ rfl HRw.out Tryd.underlying56 rfl (by exact sizeInit25)) rfl ?_
    obtain ⟨e0, e1, e2, e3, e4, e5, e6, e7⟩ := HE.out
    refine ⟨u, by unfold initV; rw [e0, e1, e2, e3, e4, e5, e6, e7]; rfl, fun k hk => texts_set (HT.out k hk) (fun hne b hb => ?_) _, below_setRow (HB.out.trans (B2.out.mono HB.out.size)) (by omega) _⟩
    have h1 := HFr.out k hk (fun e => hne (by rw [e]; rfl)) b hb
    have h2 := B1.out.size
    have h3 := HS0.out
    omega
  · refine wp_region_held_drew (S := fun w' => w'.cell? ⟨w.heap.size, 0, none⟩ = some (.bool true) ∧ w'.cell? ⟨w.heap.size, 3, none⟩ = some (.slice c.a0 c.n0 c.c0) ∧ w'.cell? ⟨w.heap.size, 4, none⟩ = some (.slice c.a1 c.n1 c.c1) ∧ w'.cell? ⟨w.heap.size, 5, none⟩ = some (.slice c.a2 c.n2 c.c2) ∧ w'.cell? ⟨w.heap.size, 6, none⟩ = some (.slice c.a3 c.n3 c.c3) ∧ w'.cell? ⟨w.heap.size, 7, none⟩ = some (.slice c.a4 c.n4 c.c4) ∧ w'.cell? ⟨w.heap.size, 8, none⟩ = some (.slice c.a5 c.n5 c.c5) ∧ w'.cell? ⟨w.heap.size, 9, none⟩ = some (.slice c.a6 c.n6 c.c6) ∧ w'.cell? ⟨w.heap.size, 10, none⟩ = some (.slice c.a7 c.n7 c.c7) ∧ w'.cell? ⟨w.heap.size, 18, none⟩ = some (.bool ex) ∧ w'.cell? ⟨w.heap.size, 19, none⟩ = some (.bool gu)) (by kernel_rfl) ?_ (fun hHeld => ?_)
    · exact HX.out _ BR.out
    refine wpAnyH_take (i := 0) (oi := { dst := some 14, op := Op.move (Operand.tmp 1), type := 3, pos := "conf.go:83", after := #[], guard := none }) (v := ?_) rfl (by kernel_rfl) (by kernel_rfl) (by kernel_rfl) (fun _ _ _ h => h) (Or.inl ⟨by rfl, ?_⟩) (by assumption) ?_
    rotate_left 1
    · (intro w hSw; (try dsimp only at hSw); go_simp; (try with_reducible rfl))
    try simp only [Act.put, List.setIfInBounds_toArray, List.set_cons_zero, List.set_cons_succ]
    refine wpAnyH_take (i := 1) (oi := { dst := some 15, op := Op.move (Operand.tmp 2), type := 3, pos := "conf.go:83", after := #[], guard := none }) (v := ?_) rfl (by kernel_rfl) (by kernel_rfl) (by kernel_rfl) (fun _ _ _ h => h) (Or.inl ⟨by rfl, ?_⟩) (by assumption) ?_
    rotate_left 1
    · (intro w hSw; (try dsimp only at hSw); go_simp; (try with_reducible rfl))
    try simp only [Act.put, List.setIfInBounds_toArray, List.set_cons_zero, List.set_cons_succ]
    refine wpAnyH_take (i := 3) (oi := { dst := some 17, op := Op.fieldAddr 51 (Operand.tmp 3) 3, type := 0, pos := "conf.go:83", after := #[], guard := none }) (v := ?_) rfl (by kernel_rfl) (by kernel_rfl) (by kernel_rfl) (fun _ _ _ h => h) (Or.inl ⟨by rfl, ?_⟩) (by assumption) ?_
    rotate_left 1
    · (intro w hSw; (try dsimp only at hSw); go_simp; (try with_reducible rfl))
    try simp only [Act.put, List.setIfInBounds_toArray, List.set_cons_zero, List.set_cons_succ]
    refine wpAnyH_take (i := 4) (oi := { dst := some 18, op := Op.load 46 (Operand.tmp 17), type := 46, pos := "conf.go:83", after := #[{ on := 3, ground := Ground.data }], guard := none }) (v := ?_) rfl (by kernel_rfl) (by kernel_rfl) (by kernel_rfl) (fun _ _ _ h => h) (Or.inl ⟨by rfl, ?_⟩) (by assumption) ?_
    rotate_left 1
    · (intro w hSw; (try dsimp only at hSw); go_simp; (try with_reducible rfl))
    try simp only [Act.put, List.setIfInBounds_toArray, List.set_cons_zero, List.set_cons_succ]
    refine wpAnyH_take (i := 6) (oi := { dst := some 20, op := Op.move (Operand.tmp 7), type := 4, pos := "conf.go:83", after := #[], guard := none }) (v := ?_) rfl (by kernel_rfl) (by kernel_rfl) (by kernel_rfl) (fun _ _ _ h => h) (Or.inl ⟨by rfl, ?_⟩) (by assumption) ?_
    rotate_left 1
    · (intro w hSw; (try dsimp only at hSw); go_simp; (try with_reducible rfl))
    try simp only [Act.put, List.setIfInBounds_toArray, List.set_cons_zero, List.set_cons_succ]
    refine wpAnyH_take (i := 14) (oi := { dst := some 28, op := Op.move (Operand.tmp 7), type := 4, pos := "conf.go:83", after := #[], guard := none }) (v := ?_) rfl (by kernel_rfl) (by kernel_rfl) (by kernel_rfl) (fun _ _ _ h => h) (Or.inl ⟨by rfl, ?_⟩) (by assumption) ?_
    rotate_left 1
    · (intro w hSw; (try dsimp only at hSw); go_simp; (try with_reducible rfl))
    try simp only [Act.put, List.setIfInBounds_toArray, List.set_cons_zero, List.set_cons_succ]
    refine wpAnyH_take (i := 18) (oi := { dst := some 32, op := Op.fieldAddr 51 (Operand.tmp 3) 0, type := 0, pos := "conf.go:83", after := #[], guard := none }) (v := ?_) rfl (by kernel_rfl) (by kernel_rfl) (by kernel_rfl) (fun _ _ _ h => h) (Or.inl ⟨by rfl, ?_⟩) (by assumption) ?_
    rotate_left 1
    · (intro w hSw; (try dsimp only at hSw); go_simp; (try with_reducible rfl))
    try simp only [Act.put, List.setIfInBounds_toArray, List.set_cons_zero, List.set_cons_succ]
    refine wpAnyH_take (i := 19) (oi := { dst := some 33, op := Op.load 4 (Operand.tmp 32), type := 4, pos := "conf.go:83", after := #[{ on := 18, ground := Ground.data }], guard := none }) (v := ?_) rfl (by kernel_rfl) (by kernel_rfl) (by kernel_rfl) (fun _ _ _ h => h) (Or.inl ⟨by rfl, ?_⟩) (by assumption) ?_
    rotate_left 1
    · (intro w hSw; (try dsimp only at hSw); go_simp; (try with_reducible rfl))
    try simp only [Act.put, List.setIfInBounds_toArray, List.set_cons_zero, List.set_cons_succ]
    refine wpAnyH_take (i := 23) (oi := { dst := some 37, op := Op.move (Operand.tmp 7), type := 4, pos := "conf.go:83", after := #[], guard := none }) (v := ?_) rfl (by kernel_rfl) (by kernel_rfl) (by kernel_rfl) (fun _ _ _ h => h) (Or.inl ⟨by rfl, ?_⟩) (by assumption) ?_
    rotate_left 1
    · (intro w hSw; (try dsimp only at hSw); go_simp; (try with_reducible rfl))
    try simp only [Act.put, List.setIfInBounds_toArray, List.set_cons_zero, List.set_cons_succ]
    refine wpAnyH_ready (rs := [2]) (by kernel_rfl) (by simp) ?_
    refine AllReadyH.cons (o := { dst := some 16, op := Op.call { callee := Callee.value (Operand.func 39), args := #[Operand.tmp 14, Operand.tmp 15], argTypes := #[3, 3] }, type := 9, pos := "conf.go:84", after := #[{ on := 0, ground := Ground.data }, { on := 1, ground := Ground.data }], guard := none }) rfl (fun K hK => ?_) AllReadyH.nil
    go_simp
    go_at_call 39
    with_reducible refine (HK.out _).mono ?_
    rintro e w1 ⟨rfl, bb1⟩
    have B1 := Lib.hid (BR.out.trans (bb1.mono BR.out.size))
    clear bb1
    go_wp2_with fail
    refine hK.out _ _ ?_ (fun hHeld => ?_)
    · exact HX.out _ B1.out
    clear hK K
    try simp only [Act.put, List.setIfInBounds_toArray, List.set_cons_zero, List.set_cons_succ]
    refine wpAnyH_ready (rs := [5]) (by kernel_rfl) (by simp) ?_
    refine AllReadyH.cons (o := { dst := some 19, op := Op.call { callee := Callee.value (Operand.func 40), args := #[Operand.tmp 18], argTypes := #[46] }, type := 46, pos := "conf.go:85", after := #[{ on := 4, ground := Ground.data }, { on := 2, ground := Ground.chain }], guard := none }) rfl (fun K hK => ?_) AllReadyH.nil
    go_simp
    go_at_call 40
    with_reducible refine (HC.out _ (HB.out.trans (B1.out.mono HB.out.size))).mono ?_
    rintro e w2 ⟨u, rfl, ht, hnil, hfr, bb2⟩
    have B2 := Lib.hid (B1.out.trans (bb2.mono B1.out.size))
    have HT := Lib.hid ht
    have HFr := Lib.hid hfr
    obtain ⟨b0, m0, d0, f0⟩ := (texts_sl ht) 0 (by omega); obtain ⟨b1, m1, d1, f1⟩ := (texts_sl ht) 1 (by omega); obtain ⟨b2, m2, d2, f2⟩ := (texts_sl ht) 2 (by omega); obtain ⟨b3, m3, d3, f3⟩ := (texts_sl ht) 3 (by omega); obtain ⟨b4, m4, d4, f4⟩ := (texts_sl ht) 4 (by omega); obtain ⟨b5, m5, d5, f5⟩ := (texts_sl ht) 5 (by omega); obtain ⟨b6, m6, d6, f6⟩ := (texts_sl ht) 6 (by omega); obtain ⟨b7, m7, d7, f7⟩ := (texts_sl ht) 7 (by omega)
    have hX2 : agg8 u = .agg #[.slice b0 m0 d0, .slice b1 m1 d1, .slice b2 m2 d2, .slice b3 m3 d3, .slice b4 m4 d4, .slice b5 m5 d5, .slice b6 m6 d6, .slice b7 m7 d7] := (by unfold agg8; rw [f0, f1, f2, f3, f4, f5, f6, f7])
    rw [hX2]
    have HE := Lib.hid (And.intro f0 (And.intro f1 (And.intro f2 (And.intro f3 (And.intro f4 (And.intro f5 (And.intro f6 f7)))))))
    clear ht hnil hfr bb2 hX2 f0 f1 f2 f3 f4 f5 f6 f7
    go_wp2_with fail
    refine hK.out _ _ ?_ (fun hHeld => ?_)
    · exact HX.out _ B2.out
    clear hK K
    try simp only [Act.put, List.setIfInBounds_toArray, List.set_cons_zero, List.set_cons_succ]
    refine wpAnyH_take (i := 7) (oi := { dst := some 21, op := Op.move (Operand.tmp 20), type := 4, pos := "conf.go:83", after := #[{ on := 6, ground := Ground.data }, { on := 5, ground := Ground.chain }], guard := none }) (v := ?_) rfl (by kernel_rfl) (by kernel_rfl) (by kernel_rfl) (fun _ _ _ h => h) (Or.inl ⟨by rfl, ?_⟩) (by assumption) ?_
    rotate_left 1
    · (intro w hSw; (try dsimp only at hSw); go_simp; (try with_reducible rfl))
    try simp only [Act.put, List.setIfInBounds_toArray, List.set_cons_zero, List.set_cons_succ]
    refine wpAnyH_take (i := 8) (oi := { dst := some 22, op := Op.move (Operand.tmp 8), type := 4, pos := "conf.go:83", after := #[{ on := 7, ground := Ground.guard }], guard := some (7, true) }) (v := undef) rfl (by kernel_rfl) (by kernel_rfl) (by kernel_rfl) (fun _ _ _ h => h) (Or.inr ⟨by rfl, rfl⟩) (by assumption) ?_
    try simp only [Act.put, List.setIfInBounds_toArray, List.set_cons_zero, List.set_cons_succ]
    refine wpAnyH_take (i := 9) (oi := { dst := some 23, op := Op.pick (Operand.tmp 21) (Operand.tmp 22) (Operand.const (Value.bool false)), type := 4, pos := "conf.go:83", after := #[{ on := 7, ground := Ground.data }, { on := 8, ground := Ground.data }], guard := none }) (v := ?_) rfl (by kernel_rfl) (by kernel_rfl) (by kernel_rfl) (fun _ _ _ h => h) (Or.inl ⟨by rfl, ?_⟩) (by assumption) ?_
    rotate_left 1
    · (intro w hSw; (try dsimp only at hSw); go_simp; (try with_reducible rfl))
    try simp only [Act.put, List.setIfInBounds_toArray, List.set_cons_zero, List.set_cons_succ]
    refine wpAnyH_take (i := 10) (oi := { dst := some 24, op := Op.move (Operand.tmp 23), type := 4, pos := "conf.go:83", after := #[{ on := 9, ground := Ground.data }, { on := 7, ground := Ground.chain }], guard := none }) (v := ?_) rfl (by kernel_rfl) (by kernel_rfl) (by kernel_rfl) (fun _ _ _ h => h) (Or.inl ⟨by rfl, ?_⟩) (by assumption) ?_
    rotate_left 1
    · (intro w hSw; (try dsimp only at hSw); go_simp; (try with_reducible rfl))
    try simp only [Act.put, List.setIfInBounds_toArray, List.set_cons_zero, List.set_cons_succ]
    refine wpAnyH_take (i := 11) (oi := { dst := some 25, op := Op.fieldAddr 51 (Operand.tmp 3) 11, type := 0, pos := "conf.go:83", after := #[{ on := 10, ground := Ground.guard }], guard := some (10, true) }) (v := undef) rfl (by kernel_rfl) (by kernel_rfl) (by kernel_rfl) (fun _ _ _ h => h) (Or.inr ⟨by rfl, rfl⟩) (by assumption) ?_
    try simp only [Act.put, List.setIfInBounds_toArray, List.set_cons_zero, List.set_cons_succ]
    refine wpAnyH_take (i := 12) (oi := { dst := some 26, op := Op.load 4 (Operand.tmp 25), type := 4, pos := "conf.go:83", after := #[{ on := 11, ground := Ground.data }, { on := 10, ground := Ground.guard }], guard := some (10, true) }) (v := undef) rfl (by kernel_rfl) (by kernel_rfl) (by kernel_rfl) (fun _ _ _ h => h) (Or.inr ⟨by rfl, rfl⟩) (by assumption) ?_
    try simp only [Act.put, List.setIfInBounds_toArray, List.set_cons_zero, List.set_cons_succ]
    refine wpAnyH_take (i := 13) (oi := { dst := some 27, op := Op.pick (Operand.tmp 24) (Operand.tmp 26) (Operand.const (Value.bool false)), type := 4, pos := "conf.go:83", after := #[{ on := 10, ground := Ground.data }, { on := 12, ground := Ground.data }], guard := none }) (v := ?_) rfl (by kernel_rfl) (by kernel_rfl) (by kernel_rfl) (fun _ _ _ h => h) (Or.inl ⟨by rfl, ?_⟩) (by assumption) ?_
    rotate_left 1
    · (intro w hSw; (try dsimp only at hSw); go_simp; (try with_reducible rfl))
    try simp only [Act.put, List.setIfInBounds_toArray, List.set_cons_zero, List.set_cons_succ]
    refine wpAnyH_take (i := 15) (oi := { dst := some 29, op := Op.move (Operand.tmp 28), type := 4, pos := "conf.go:83", after := #[{ on := 14, ground := Ground.data }, { on := 10, ground := Ground.chain }], guard := none }) (v := ?_) rfl (by kernel_rfl) (by kernel_rfl) (by kernel_rfl) (fun _ _ _ h => h) (Or.inl ⟨by rfl, ?_⟩) (by assumption) ?_
    rotate_left 1
    · (intro w hSw; (try dsimp only at hSw); go_simp; (try with_reducible rfl))
    try simp only [Act.put, List.setIfInBounds_toArray, List.set_cons_zero, List.set_cons_succ]
    refine wpAnyH_take (i := 16) (oi := { dst := some 30, op := Op.move (Operand.tmp 8), type := 4, pos := "conf.go:83", after := #[{ on := 15, ground := Ground.guard }], guard := some (15, true) }) (v := undef) rfl (by kernel_rfl) (by kernel_rfl) (by kernel_rfl) (fun _ _ _ h => h) (Or.inr ⟨by rfl, rfl⟩) (by assumption) ?_
    try simp only [Act.put, List.setIfInBounds_toArray, List.set_cons_zero, List.set_cons_succ]
    refine wpAnyH_take (i := 17) (oi := { dst := some 31, op := Op.pick (Operand.tmp 29) (Operand.tmp 30) (Operand.const (Value.bool false)), type := 4, pos := "conf.go:83", after := #[{ on := 15, ground := Ground.data }, { on := 16, ground := Ground.data }], guard := none }) (v := ?_) rfl (by kernel_rfl) (by kernel_rfl) (by kernel_rfl) (fun _ _ _ h => h) (Or.inl ⟨by rfl, ?_⟩) (by assumption) ?_
    rotate_left 1
    · (intro w hSw; (try dsimp only at hSw); go_simp; (try with_reducible rfl))
    try simp only [Act.put, List.setIfInBounds_toArray, List.set_cons_zero, List.set_cons_succ]
    refine wpAnyH_take (i := 20) (oi := { dst := some 34, op := Op.move (Operand.tmp 33), type := 4, pos := "conf.go:83", after := #[{ on := 19, ground := Ground.data }, { on := 15, ground := Ground.chain }], guard := none }) (v := ?_) rfl (by kernel_rfl) (by kernel_rfl) (by kernel_rfl) (fun _ _ _ h => h) (Or.inl ⟨by rfl, ?_⟩) (by assumption) ?_
    rotate_left 1
    · (intro w hSw; (try dsimp only at hSw); go_simp; (try with_reducible rfl))
    try simp only [Act.put, List.setIfInBounds_toArray, List.set_cons_zero, List.set_cons_succ]
    refine wpAnyH_take (i := 21) (oi := { dst := some 35, op := Op.move (Operand.tmp 8), type := 4, pos := "conf.go:83", after := #[{ on := 20, ground := Ground.guard }], guard := some (20, true) }) (v := ?_) rfl (by kernel_rfl) (by kernel_rfl) (by kernel_rfl) (fun _ _ _ h => h) (Or.inl ⟨by rfl, ?_⟩) (by assumption) ?_
    rotate_left 1
    · (intro w hSw; (try dsimp only at hSw); go_simp; (try with_reducible rfl))
    try simp only [Act.put, List.setIfInBounds_toArray, List.set_cons_zero, List.set_cons_succ]
    refine wpAnyH_take (i := 22) (oi := { dst := some 36, op := Op.pick (Operand.tmp 34) (Operand.tmp 35) (Operand.const (Value.bool false)), type := 4, pos := "conf.go:83", after := #[{ on := 20, ground := Ground.data }, { on := 21, ground := Ground.data }], guard := none }) (v := ?_) rfl (by kernel_rfl) (by kernel_rfl) (by kernel_rfl) (fun _ _ _ h => h) (Or.inl ⟨by rfl, ?_⟩) (by assumption) ?_
    rotate_left 1
    · (intro w hSw; (try dsimp only at hSw); go_simp; (try with_reducible rfl))
    try simp only [Act.put, List.setIfInBounds_toArray, List.set_cons_zero, List.set_cons_succ]
    refine wpAnyH_take (i := 24) (oi := { dst := some 38, op := Op.move (Operand.tmp 37), type := 4, pos := "conf.go:83", after := #[{ on := 23, ground := Ground.data }, { on := 20, ground := Ground.chain }], guard := none }) (v := ?_) rfl (by kernel_rfl) (by kernel_rfl) (by kernel_rfl) (fun _ _ _ h => h) (Or.inl ⟨by rfl, ?_⟩) (by assumption) ?_
    rotate_left 1
    · (intro w hSw; (try dsimp only at hSw); go_simp; (try with_reducible rfl))
    try simp only [Act.put, List.setIfInBounds_toArray, List.set_cons_zero, List.set_cons_succ]
    refine wpAnyH_take (i := 25) (oi := { dst := some 39, op := Op.fieldAddr 51 (Operand.tmp 3) 12, type := 0, pos := "conf.go:83", after := #[{ on := 24, ground := Ground.guard }], guard := some (24, true) }) (v := undef) rfl (by kernel_rfl) (by kernel_rfl) (by kernel_rfl) (fun _ _ _ h => h) (Or.inr ⟨by rfl, rfl⟩) (by assumption) ?_
    try simp only [Act.put, List.setIfInBounds_toArray, List.set_cons_zero, List.set_cons_succ]
    refine wpAnyH_take (i := 26) (oi := { dst := some 40, op := Op.load 4 (Operand.tmp 39), type := 4, pos := "conf.go:83", after := #[{ on := 25, ground := Ground.data }, { on := 24, ground := Ground.guard }], guard := some (24, true) }) (v := undef) rfl (by kernel_rfl) (by kernel_rfl) (by kernel_rfl) (fun _ _ _ h => h) (Or.inr ⟨by rfl, rfl⟩) (by assumption) ?_
    try simp only [Act.put, List.setIfInBounds_toArray, List.set_cons_zero, List.set_cons_succ]
    refine wpAnyH_take (i := 27) (oi := { dst := some 41, op := Op.pick (Operand.tmp 38) (Operand.tmp 40) (Operand.const (Value.bool false)), type := 4, pos := "conf.go:83", after := #[{ on := 24, ground := Ground.data }, { on := 26, ground := Ground.data }], guard := none }) (v := ?_) rfl (by kernel_rfl) (by kernel_rfl) (by kernel_rfl) (fun _ _ _ h => h) (Or.inl ⟨by rfl, ?_⟩) (by assumption) ?_
    rotate_left 1
    · (intro w hSw; (try dsimp only at hSw); go_simp; (try with_reducible rfl))
    try simp only [Act.put, List.setIfInBounds_toArray, List.set_cons_zero, List.set_cons_succ]
    refine wpAnyH_take (i := 28) (oi := { dst := some 42, op := Op.build 56 #[(0, Operand.tmp 16), (1, Operand.tmp 19), (3, Operand.tmp 27), (5, Operand.tmp 31), (6, Operand.tmp 36), (7, Operand.tmp 41)], type := 56, pos := "conf.go:83", after := #[{ on := 2, ground := Ground.data }, { on := 5, ground := Ground.data }, { on := 13, ground := Ground.data }, { on := 17, ground := Ground.data }, { on := 22, ground := Ground.data }, { on := 27, ground := Ground.data }], guard := none }) (v := ?_) rfl (by kernel_rfl) (by kernel_rfl) (by kernel_rfl) (fun _ _ _ h => h) (Or.inl ⟨by rfl, ?_⟩) (by assumption) ?_
    rotate_left 1
    · (intro w hSw; (try dsimp only at hSw); go_simp; (try with_reducible rfl))
    try simp only [Act.put, List.setIfInBounds_toArray, List.set_cons_zero, List.set_cons_succ]
    obtain ⟨x0, x3, x4, x5, x6, x7, x8, x9, x10, x18, x19⟩ := HX.out _ B2.out
    have hI : w2.heap[w.heap.size + 1]? = some (.cells #[.string ⟨#[]⟩, .slice none 0 0, .slice none 0 0, .slice none 0 0, .slice none 0 0, .slice none 0 0, .slice none 0 0, .slice none 0 0, .slice none 0 0, .slice none 0 0, .slice none 0 0, .bool false, .bool false, .bool false, .bool false, .bool false] 56 (0, 0)) := (B2.out.block _ HI.out.lt).trans HI.out
    have HRw := Lib.hid (setRow_heap w2 (w.heap.size + 1) #[.string ⟨#[]⟩, .slice none 0 0, .slice none 0 0, .slice none 0 0, .slice none 0 0, .slice none 0 0, .slice none 0 0, .slice none 0 0, .slice none 0 0, .slice none 0 0, .slice none 0 0, .bool false, .bool false, .bool false, .bool false, .bool false] #[.string C, .slice b0 m0 d0, .slice b1 m1 d1, .slice b2 m2 d2, .slice b3 m3 d3, .slice b4 m4 d4, .slice b5 m5 d5, .slice b6 m6 d6, .slice b7 m7 d7, .slice none 0 0, .slice none 0 0, .bool false, .bool false, .bool false, .bool true, .bool false] 56 (0, 0) hI)
    refine wpAnyH_ready (rs := [29]) (by kernel_rfl) (by simp) ?_
    refine AllReadyH.cons rfl (fun K hK => ?_) AllReadyH.nil
    refine step_store_row15 rfl 56 _ _ rfl (w.heap.size + 1) #[.string C, .slice b0 m0 d0, .slice b1 m1 d1, .slice b2 m2 d2, .slice b3 m3 d3, .slice b4 m4 d4, .slice b5 m5 d5, .slice b6 m6 d6, .slice b7 m7 d7, .slice none 0 0, .slice none 0 0, .bool false, .bool false, .bool false, .bool true, .bool false] rfl rfl 56 #[.string ⟨#[]⟩, .slice none 0 0, .slice none 0 0, .slice none 0 0, .slice none 0 0, .slice none 0 0, .slice none 0 0, .slice none 0 0, .slice none 0 0, .slice none 0 0, .slice none 0 0, .bool false, .bool false, .bool false, .bool false, .bool false] hI (by exact sizeInit25) (by rfl) (by simp [Value.oneCell']) ?_
    refine hK.out _ _ ?_ (fun hHeld => ?_)
    · exact ⟨(cell_setRow_other w2 (w.heap.size + 1) _ ⟨w.heap.size, 0, none⟩ (by show w.heap.size ≠ w.heap.size + 1; omega)).trans x0, (cell_setRow_other w2 (w.heap.size + 1) _ ⟨w.heap.size, 3, none⟩ (by show w.heap.size ≠ w.heap.size + 1; omega)).trans x3, (cell_setRow_other w2 (w.heap.size + 1) _ ⟨w.heap.size, 4, none⟩ (by show w.heap.size ≠ w.heap.size + 1; omega)).trans x4, (cell_setRow_other w2 (w.heap.size + 1) _ ⟨w.heap.size, 5, none⟩ (by show w.heap.size ≠ w.heap.size + 1; omega)).trans x5, (cell_setRow_other w2 (w.heap.size + 1) _ ⟨w.heap.size, 6, none⟩ (by show w.heap.size ≠ w.heap.size + 1; omega)).trans x6, (cell_setRow_other w2 (w.heap.size + 1) _ ⟨w.heap.size, 7, none⟩ (by show w.heap.size ≠ w.heap.size + 1; omega)).trans x7, (cell_setRow_other w2 (w.heap.size + 1) _ ⟨w.heap.size, 8, none⟩ (by show w.heap.size ≠ w.heap.size + 1; omega)).trans x8, (cell_setRow_other w2 (w.heap.size + 1) _ ⟨w.heap.size, 9, none⟩ (by show w.heap.size ≠ w.heap.size + 1; omega)).trans x9, (cell_setRow_other w2 (w.heap.size + 1) _ ⟨w.heap.size, 10, none⟩ (by show w.heap.size ≠ w.heap.size + 1; omega)).trans x10, (cell_setRow_other w2 (w.heap.size + 1) _ ⟨w.heap.size, 18, none⟩ (by show w.heap.size ≠ w.heap.size + 1; omega)).trans x18, (cell_setRow_other w2 (w.heap.size + 1) _ ⟨w.heap.size, 19, none⟩ (by show w.heap.size ≠ w.heap.size + 1; omega)).trans x19⟩
    clear hK K hHeld x0 x3 x4 x5 x6 x7 x8 x9 x10 x18 x19
    refine wpAnyH_done (by kernel_rfl) ?_ _
    go_wp2_with fail
    refine bodyPost_ret (results_cell_row rfl _ _ (w.heap.size + 1) _ #[.string C, .slice b0 m0 d0, .slice b1 m1 d1, .slice b2 m2 d2, .slice b3 m3 d3, .slice b4 m4 d4, .slice b5 m5 d5, .slice b6 m6 d6, .slice b7 m7 d7, .slice none 0 0, .slice none 0 0, .bool false, .bool false, .bool false, .bool true, .bool false] (0, 0) _ rfl HRw.out Tryd.underlying56 rfl (by exact sizeInit25)) rfl ?_
    obtain ⟨e0, e1, e2, e3, e4, e5, e6, e7⟩ := HE.out
    refine ⟨u, by unfold initV; rw [e0, e1, e2, e3, e4, e5, e6, e7]; rfl, fun k hk => texts_set (HT.out k hk) (fun hne b hb => ?_) _, below_setRow (HB.out.trans (B2.out.mono HB.out.size)) (by omega) _⟩
    have h1 := HFr.out k hk (fun e => hne (by rw [e]; rfl)) b hb
    have h2 := B1.out.size
    have h3 := HS0.out
    omega
end Go.Proofs.YtgoinpibllomfaaDoor
