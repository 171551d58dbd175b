/- Part 23 of what the statement wants. -/
import Derived.Test.YtgoinpibllomfaaDoorPk21
import Derived.Test.YtgoinpibllomfaaDoorPk22
namespace Go.Proofs.YtgoinpibllomfaaDoor
open Go.RowKit

theorem below_setCell25 {B : Nat} {w0 w : World} (hb : Below B w0 w) {a : Addr} (ha : B ≤ a.block) (v : Value) : Below B w0 (w.setCell a v) :=
  ⟨hb.os, hb.tape, hb.output, by have := hb.size; simpa using this, fun k hk => (heap_setCell_other w a k v (by omega)).trans (hb.block k hk)⟩
theorem holds_told25 {w : World} {b : Nat} {t : TypeId} {R R' : Array Value} (h : Holds w b t R) {i : Nat} {v : Value} (e : R.setIfInBounds i v = R') : Holds (w.setCell ⟨b, i, none⟩ v) b t R' := e ▸ h.set i v
theorem cfInit_any {w : World} {c : CfV} {d : CfL} (h : CfAt w c d) (hl : ∀ k < 8, (d.p k).length ≤ 1000) (s n : Int) (hs : s < 9223372036854775808) (hn : n < 9223372036854775808) :
    Calls Tryd.prog 21 #[.agg c.row, .int .i64 s, .int .i64 n] w (Inits25 w (bs (cookieP s n)) d.p (!c.sv && (n == 0) && c.ex) false (!c.sv && (n == 0)) (c.sv && (n == 0)) (!c.sv && c.gu)) :=
  cfInit_raw h hl s n hs hn c.sv c.ex c.gu (n == 0) rfl
set_option maxHeartbeats 16000000 in
set_option maxRecDepth 100000 in
theorem r25Init_raw {w : World} {c : CfV} (s n : Int) (hs : s < 9223372036854775808) (hn : n < 9223372036854775808) (sv ex gu first : Bool) (hf : (n == 0) = first) :
    Calls Tryd.prog 22 #[.agg #[.bool sv, .string c.so, .string c.co, .slice c.a0 c.n0 c.c0, .slice c.a1 c.n1 c.c1, .slice c.a2 c.n2 c.c2, .slice c.a3 c.n3 c.c3, .slice c.a4 c.n4 c.c4, .slice c.a5 c.n5 c.c5, .slice c.a6 c.n6 c.c6, .slice c.a7 c.n7 c.c7, .slice c.aa c.na c.ca, .int .i64 c.ow, .slice c.ag c.ng c.cg, .int .i64 c.li, .int .i64 c.pe, .string c.us, .slice c.ak c.nk c.ck, .bool ex, .bool gu, .int .u32 c.w0, .int .u32 c.w1, .int .u32 c.w2], .int .i64 s, .int .i64 n] w fun e w' => e = .returned (initV (bs (cookieP s n)) c.u (!sv && first && ex) false (!sv && first) (sv && first) (!sv && gu)) ∧ Below w.heap.size w w' := by
  have HK : Hid (∀ W, Calls Tryd.prog 41 #[.int .i64 s, .int .i64 n] W fun e w' => e = .returned (.string (bs (cookieP s n))) ∧ Below W.heap.size W w') := fun W => r16Cookie_any s n hs hn W
  generalize bs (cookieP s n) = C at *
  have hb : Below w.heap.size w ((w.alloc (.cells #[.bool sv, .string c.so, .string c.co, .slice c.a0 c.n0 c.c0, .slice c.a1 c.n1 c.c1, .slice c.a2 c.n2 c.c2, .slice c.a3 c.n3 c.c3, .slice c.a4 c.n4 c.c4, .slice c.a5 c.n5 c.c5, .slice c.a6 c.n6 c.c6, .slice c.a7 c.n7 c.c7, .slice c.aa c.na c.ca, .int .i64 c.ow, .slice c.ag c.ng c.cg, .int .i64 c.li, .int .i64 c.pe, .string c.us, .slice c.ak c.nk c.ck, .bool ex, .bool gu, .int .u32 c.w0, .int .u32 c.w1, .int .u32 c.w2] 51)).alloc (.cells #[.string ⟨#[]⟩, .slice none 0 0, .slice none 0 0, .slice none 0 0, .slice none 0 0, .slice none 0 0, .slice none 0 0, .slice none 0 0, .slice none 0 0, .slice none 0 0, .slice none 0 0, .bool false, .bool false, .bool false, .bool false, .bool false] 56)) := ((Below.refl _ _).alloc (Nat.le_refl _) _).alloc (by simp only [World.size_alloc]; omega) _
  have HB := Lib.hid hb
  have hN := And.intro (show Holds _ w.heap.size 51 #[.bool sv, .string c.so, .string c.co, .slice c.a0 c.n0 c.c0, .slice c.a1 c.n1 c.c1, .slice c.a2 c.n2 c.c2, .slice c.a3 c.n3 c.c3, .slice c.a4 c.n4 c.c4, .slice c.a5 c.n5 c.c5, .slice c.a6 c.n6 c.c6, .slice c.a7 c.n7 c.c7, .slice c.aa c.na c.ca, .int .i64 c.ow, .slice c.ag c.ng c.cg, .int .i64 c.li, .int .i64 c.pe, .string c.us, .slice c.ak c.nk c.ck, .bool ex, .bool gu, .int .u32 c.w0, .int .u32 c.w1, .int .u32 c.w2] from first2_row w #[.bool sv, .string c.so, .string c.co, .slice c.a0 c.n0 c.c0, .slice c.a1 c.n1 c.c1, .slice c.a2 c.n2 c.c2, .slice c.a3 c.n3 c.c3, .slice c.a4 c.n4 c.c4, .slice c.a5 c.n5 c.c5, .slice c.a6 c.n6 c.c6, .slice c.a7 c.n7 c.c7, .slice c.aa c.na c.ca, .int .i64 c.ow, .slice c.ag c.ng c.cg, .int .i64 c.li, .int .i64 c.pe, .string c.us, .slice c.ak c.nk c.ck, .bool ex, .bool gu, .int .u32 c.w0, .int .u32 c.w1, .int .u32 c.w2] 51 (.cells #[.string ⟨#[]⟩, .slice none 0 0, .slice none 0 0, .slice none 0 0, .slice none 0 0, .slice none 0 0, .slice none 0 0, .slice none 0 0, .slice none 0 0, .slice none 0 0, .slice none 0 0, .bool false, .bool false, .bool false, .bool false, .bool false] 56) rfl) (show Holds _ (w.heap.size + 1) 56 #[.string ⟨#[]⟩, .slice none 0 0, .slice none 0 0, .slice none 0 0, .slice none 0 0, .slice none 0 0, .slice none 0 0, .slice none 0 0, .slice none 0 0, .slice none 0 0, .slice none 0 0, .bool false, .bool false, .bool false, .bool false, .bool false] from last2_row w #[.string ⟨#[]⟩, .slice none 0 0, .slice none 0 0, .slice none 0 0, .slice none 0 0, .slice none 0 0, .slice none 0 0, .slice none 0 0, .slice none 0 0, .slice none 0 0, .slice none 0 0, .bool false, .bool false, .bool false, .bool false, .bool false] 56 (.cells #[.bool sv, .string c.so, .string c.co, .slice c.a0 c.n0 c.c0, .slice c.a1 c.n1 c.c1, .slice c.a2 c.n2 c.c2, .slice c.a3 c.n3 c.c3, .slice c.a4 c.n4 c.c4, .slice c.a5 c.n5 c.c5, .slice c.a6 c.n6 c.c6, .slice c.a7 c.n7 c.c7, .slice c.aa c.na c.ca, .int .i64 c.ow, .slice c.ag c.ng c.cg, .int .i64 c.li, .int .i64 c.pe, .string c.us, .slice c.ak c.nk c.ck, .bool ex, .bool gu, .int .u32 c.w0, .int .u32 c.w1, .int .u32 c.w2] 51) rfl)
  have HX : Hid (∀ W, Below ((w.alloc (.cells #[.bool sv, .string c.so, .string c.co, .slice c.a0 c.n0 c.c0, .slice c.a1 c.n1 c.c1, .slice c.a2 c.n2 c.c2, .slice c.a3 c.n3 c.c3, .slice c.a4 c.n4 c.c4, .slice c.a5 c.n5 c.c5, .slice c.a6 c.n6 c.c6, .slice c.a7 c.n7 c.c7, .slice c.aa c.na c.ca, .int .i64 c.ow, .slice c.ag c.ng c.cg, .int .i64 c.li, .int .i64 c.pe, .string c.us, .slice c.ak c.nk c.ck, .bool ex, .bool gu, .int .u32 c.w0, .int .u32 c.w1, .int .u32 c.w2] 51)).alloc (.cells #[.string ⟨#[]⟩, .slice none 0 0, .slice none 0 0, .slice none 0 0, .slice none 0 0, .slice none 0 0, .slice none 0 0, .slice none 0 0, .slice none 0 0, .slice none 0 0, .slice none 0 0, .bool false, .bool false, .bool false, .bool false, .bool false] 56)).heap.size ((w.alloc (.cells #[.bool sv, .string c.so, .string c.co, .slice c.a0 c.n0 c.c0, .slice c.a1 c.n1 c.c1, .slice c.a2 c.n2 c.c2, .slice c.a3 c.n3 c.c3, .slice c.a4 c.n4 c.c4, .slice c.a5 c.n5 c.c5, .slice c.a6 c.n6 c.c6, .slice c.a7 c.n7 c.c7, .slice c.aa c.na c.ca, .int .i64 c.ow, .slice c.ag c.ng c.cg, .int .i64 c.li, .int .i64 c.pe, .string c.us, .slice c.ak c.nk c.ck, .bool ex, .bool gu, .int .u32 c.w0, .int .u32 c.w1, .int .u32 c.w2] 51)).alloc (.cells #[.string ⟨#[]⟩, .slice none 0 0, .slice none 0 0, .slice none 0 0, .slice none 0 0, .slice none 0 0, .slice none 0 0, .slice none 0 0, .slice none 0 0, .slice none 0 0, .slice none 0 0, .bool false, .bool false, .bool false, .bool false, .bool false] 56)) W → W.cell? ⟨w.heap.size, 0, none⟩ = some (.bool sv) ∧ W.cell? ⟨w.heap.size, 3, none⟩ = some (.slice c.a0 c.n0 c.c0) ∧ W.cell? ⟨w.heap.size, 4, none⟩ = some (.slice c.a1 c.n1 c.c1) ∧ W.cell? ⟨w.heap.size, 5, none⟩ = some (.slice c.a2 c.n2 c.c2) ∧ W.cell? ⟨w.heap.size, 6, none⟩ = some (.slice c.a3 c.n3 c.c3) ∧ W.cell? ⟨w.heap.size, 7, none⟩ = some (.slice c.a4 c.n4 c.c4) ∧ W.cell? ⟨w.heap.size, 8, none⟩ = some (.slice c.a5 c.n5 c.c5) ∧ W.cell? ⟨w.heap.size, 9, none⟩ = some (.slice c.a6 c.n6 c.c6) ∧ W.cell? ⟨w.heap.size, 10, none⟩ = some (.slice c.a7 c.n7 c.c7) ∧ W.cell? ⟨w.heap.size, 18, none⟩ = some (.bool ex) ∧ W.cell? ⟨w.heap.size, 19, none⟩ = some (.bool gu)) := fun W hW => by
    have h1 := Holds.cell (show Holds W w.heap.size 51 #[.bool sv, .string c.so, .string c.co, .slice c.a0 c.n0 c.c0, .slice c.a1 c.n1 c.c1, .slice c.a2 c.n2 c.c2, .slice c.a3 c.n3 c.c3, .slice c.a4 c.n4 c.c4, .slice c.a5 c.n5 c.c5, .slice c.a6 c.n6 c.c6, .slice c.a7 c.n7 c.c7, .slice c.aa c.na c.ca, .int .i64 c.ow, .slice c.ag c.ng c.cg, .int .i64 c.li, .int .i64 c.pe, .string c.us, .slice c.ak c.nk c.ck, .bool ex, .bool gu, .int .u32 c.w0, .int .u32 c.w1, .int .u32 c.w2] from (hW.block _ hN.1.lt).trans hN.1)
    exact ⟨h1 0, h1 3, h1 4, h1 5, h1 6, h1 7, h1 8, h1 9, h1 10, h1 18, h1 19⟩
  have HPr : Hid (∀ W, Below ((w.alloc (.cells #[.bool sv, .string c.so, .string c.co, .slice c.a0 c.n0 c.c0, .slice c.a1 c.n1 c.c1, .slice c.a2 c.n2 c.c2, .slice c.a3 c.n3 c.c3, .slice c.a4 c.n4 c.c4, .slice c.a5 c.n5 c.c5, .slice c.a6 c.n6 c.c6, .slice c.a7 c.n7 c.c7, .slice c.aa c.na c.ca, .int .i64 c.ow, .slice c.ag c.ng c.cg, .int .i64 c.li, .int .i64 c.pe, .string c.us, .slice c.ak c.nk c.ck, .bool ex, .bool gu, .int .u32 c.w0, .int .u32 c.w1, .int .u32 c.w2] 51)).alloc (.cells #[.string ⟨#[]⟩, .slice none 0 0, .slice none 0 0, .slice none 0 0, .slice none 0 0, .slice none 0 0, .slice none 0 0, .slice none 0 0, .slice none 0 0, .slice none 0 0, .slice none 0 0, .bool false, .bool false, .bool false, .bool false, .bool false] 56)).heap.size ((w.alloc (.cells #[.bool sv, .string c.so, .string c.co, .slice c.a0 c.n0 c.c0, .slice c.a1 c.n1 c.c1, .slice c.a2 c.n2 c.c2, .slice c.a3 c.n3 c.c3, .slice c.a4 c.n4 c.c4, .slice c.a5 c.n5 c.c5, .slice c.a6 c.n6 c.c6, .slice c.a7 c.n7 c.c7, .slice c.aa c.na c.ca, .int .i64 c.ow, .slice c.ag c.ng c.cg, .int .i64 c.li, .int .i64 c.pe, .string c.us, .slice c.ak c.nk c.ck, .bool ex, .bool gu, .int .u32 c.w0, .int .u32 c.w1, .int .u32 c.w2] 51)).alloc (.cells #[.string ⟨#[]⟩, .slice none 0 0, .slice none 0 0, .slice none 0 0, .slice none 0 0, .slice none 0 0, .slice none 0 0, .slice none 0 0, .slice none 0 0, .slice none 0 0, .slice none 0 0, .bool false, .bool false, .bool false, .bool false, .bool false] 56)) W → W.cell? ⟨w.heap.size, 3, none⟩ = some (.slice c.a0 c.n0 c.c0) ∧ W.cell? ⟨w.heap.size, 4, none⟩ = some (.slice c.a1 c.n1 c.c1) ∧ W.cell? ⟨w.heap.size, 5, none⟩ = some (.slice c.a2 c.n2 c.c2) ∧ W.cell? ⟨w.heap.size, 6, none⟩ = some (.slice c.a3 c.n3 c.c3) ∧ W.cell? ⟨w.heap.size, 7, none⟩ = some (.slice c.a4 c.n4 c.c4) ∧ W.cell? ⟨w.heap.size, 8, none⟩ = some (.slice c.a5 c.n5 c.c5) ∧ W.cell? ⟨w.heap.size, 9, none⟩ = some (.slice c.a6 c.n6 c.c6) ∧ W.cell? ⟨w.heap.size, 10, none⟩ = some (.slice c.a7 c.n7 c.c7)) := fun W hW => by
    obtain ⟨_, h0, h1, h2, h3, h4, h5, h6, h7, _⟩ := HX.out W hW
    exact ⟨h0, h1, h2, h3, h4, h5, h6, h7⟩
  have HI := Lib.hid hN.2
  have BR : Hid (Below ((w.alloc (.cells #[.bool sv, .string c.so, .string c.co, .slice c.a0 c.n0 c.c0, .slice c.a1 c.n1 c.c1, .slice c.a2 c.n2 c.c2, .slice c.a3 c.n3 c.c3, .slice c.a4 c.n4 c.c4, .slice c.a5 c.n5 c.c5, .slice c.a6 c.n6 c.c6, .slice c.a7 c.n7 c.c7, .slice c.aa c.na c.ca, .int .i64 c.ow, .slice c.ag c.ng c.cg, .int .i64 c.li, .int .i64 c.pe, .string c.us, .slice c.ak c.nk c.ck, .bool ex, .bool gu, .int .u32 c.w0, .int .u32 c.w1, .int .u32 c.w2] 51)).alloc (.cells #[.string ⟨#[]⟩, .slice none 0 0, .slice none 0 0, .slice none 0 0, .slice none 0 0, .slice none 0 0, .slice none 0 0, .slice none 0 0, .slice none 0 0, .slice none 0 0, .slice none 0 0, .bool false, .bool false, .bool false, .bool false, .bool false] 56)).heap.size ((w.alloc (.cells #[.bool sv, .string c.so, .string c.co, .slice c.a0 c.n0 c.c0, .slice c.a1 c.n1 c.c1, .slice c.a2 c.n2 c.c2, .slice c.a3 c.n3 c.c3, .slice c.a4 c.n4 c.c4, .slice c.a5 c.n5 c.c5, .slice c.a6 c.n6 c.c6, .slice c.a7 c.n7 c.c7, .slice c.aa c.na c.ca, .int .i64 c.ow, .slice c.ag c.ng c.cg, .int .i64 c.li, .int .i64 c.pe, .string c.us, .slice c.ak c.nk c.ck, .bool ex, .bool gu, .int .u32 c.w0, .int .u32 c.w1, .int .u32 c.w2] 51)).alloc (.cells #[.string ⟨#[]⟩, .slice none 0 0, .slice none 0 0, .slice none 0 0, .slice none 0 0, .slice none 0 0, .slice none 0 0, .slice none 0 0, .slice none 0 0, .slice none 0 0, .slice none 0 0, .bool false, .bool false, .bool false, .bool false, .bool false] 56)) ((w.alloc (.cells #[.bool sv, .string c.so, .string c.co, .slice c.a0 c.n0 c.c0, .slice c.a1 c.n1 c.c1, .slice c.a2 c.n2 c.c2, .slice c.a3 c.n3 c.c3, .slice c.a4 c.n4 c.c4, .slice c.a5 c.n5 c.c5, .slice c.a6 c.n6 c.c6, .slice c.a7 c.n7 c.c7, .slice c.aa c.na c.ca, .int .i64 c.ow, .slice c.ag c.ng c.cg, .int .i64 c.li, .int .i64 c.pe, .string c.us, .slice c.ak c.nk c.ck, .bool ex, .bool gu, .int .u32 c.w0, .int .u32 c.w1, .int .u32 c.w2] 51)).alloc (.cells #[.string ⟨#[]⟩, .slice none 0 0, .slice none 0 0, .slice none 0 0, .slice none 0 0, .slice none 0 0, .slice none 0 0, .slice none 0 0, .slice none 0 0, .slice none 0 0, .slice none 0 0, .bool false, .bool false, .bool false, .bool false, .bool false] 56)).drew) := (Below.refl _ _).drew
  have hsz0 : ((w.alloc (.cells #[.bool sv, .string c.so, .string c.co, .slice c.a0 c.n0 c.c0, .slice c.a1 c.n1 c.c1, .slice c.a2 c.n2 c.c2, .slice c.a3 c.n3 c.c3, .slice c.a4 c.n4 c.c4, .slice c.a5 c.n5 c.c5, .slice c.a6 c.n6 c.c6, .slice c.a7 c.n7 c.c7, .slice c.aa c.na c.ca, .int .i64 c.ow, .slice c.ag c.ng c.cg, .int .i64 c.li, .int .i64 c.pe, .string c.us, .slice c.ak c.nk c.ck, .bool ex, .bool gu, .int .u32 c.w0, .int .u32 c.w1, .int .u32 c.w2] 51)).alloc (.cells #[.string ⟨#[]⟩, .slice none 0 0, .slice none 0 0, .slice none 0 0, .slice none 0 0, .slice none 0 0, .slice none 0 0, .slice none 0 0, .slice none 0 0, .slice none 0 0, .slice none 0 0, .bool false, .bool false, .bool false, .bool false, .bool false] 56)).heap.size = w.heap.size + 2 := by simp only [World.size_alloc]
  have HS0 := Lib.hid hsz0
  clear hs hn hN hb hsz0
  go_enter Tryd.func22, Tryd.ntmps22
  go_wp2_with fail
  generalize ((w.alloc (.cells #[.bool sv, .string c.so, .string c.co, .slice c.a0 c.n0 c.c0, .slice c.a1 c.n1 c.c1, .slice c.a2 c.n2 c.c2, .slice c.a3 c.n3 c.c3, .slice c.a4 c.n4 c.c4, .slice c.a5 c.n5 c.c5, .slice c.a6 c.n6 c.c6, .slice c.a7 c.n7 c.c7, .slice c.aa c.na c.ca, .int .i64 c.ow, .slice c.ag c.ng c.cg, .int .i64 c.li, .int .i64 c.pe, .string c.us, .slice c.ak c.nk c.ck, .bool ex, .bool gu, .int .u32 c.w0, .int .u32 c.w1, .int .u32 c.w2] 51)).alloc (.cells #[.string ⟨#[]⟩, .slice none 0 0, .slice none 0 0, .slice none 0 0, .slice none 0 0, .slice none 0 0, .slice none 0 0, .slice none 0 0, .slice none 0 0, .slice none 0 0, .slice none 0 0, .bool false, .bool false, .bool false, .bool false, .bool false] 56)) = W0 at *
  cases sv <;> cases first <;> cases ex
  · refine wp_region_held_drew (S := fun w' => w'.cell? ⟨w.heap.size, 3, none⟩ = some (.slice c.a0 c.n0 c.c0) ∧ w'.cell? ⟨w.heap.size, 4, none⟩ = some (.slice c.a1 c.n1 c.c1) ∧ w'.cell? ⟨w.heap.size, 5, none⟩ = some (.slice c.a2 c.n2 c.c2) ∧ w'.cell? ⟨w.heap.size, 6, none⟩ = some (.slice c.a3 c.n3 c.c3) ∧ w'.cell? ⟨w.heap.size, 7, none⟩ = some (.slice c.a4 c.n4 c.c4) ∧ w'.cell? ⟨w.heap.size, 8, none⟩ = some (.slice c.a5 c.n5 c.c5) ∧ w'.cell? ⟨w.heap.size, 9, none⟩ = some (.slice c.a6 c.n6 c.c6) ∧ w'.cell? ⟨w.heap.size, 10, none⟩ = some (.slice c.a7 c.n7 c.c7)) (by kernel_rfl) ?_ (fun hHeld => ?_)
    · exact HPr.out _ BR.out
    refine wpAnyH_take (i := 0) (oi := { dst := some 8, op := Op.move (Operand.tmp 1), type := 3, pos := "ref.go:69", after := #[], guard := none }) (v := ?_) rfl (by kernel_rfl) (by kernel_rfl) (by kernel_rfl) (fun _ _ _ h => h) (Or.inl ⟨by rfl, ?_⟩) (by assumption) ?_
    rotate_left 1
    · (intro w hSw; (try dsimp only at hSw); go_simp; (try with_reducible rfl))
    try simp only [Act.put, List.setIfInBounds_toArray, List.set_cons_zero, List.set_cons_succ]
    refine wpAnyH_take (i := 1) (oi := { dst := some 9, op := Op.move (Operand.tmp 2), type := 3, pos := "ref.go:69", after := #[], guard := none }) (v := ?_) rfl (by kernel_rfl) (by kernel_rfl) (by kernel_rfl) (fun _ _ _ h => h) (Or.inl ⟨by rfl, ?_⟩) (by assumption) ?_
    rotate_left 1
    · (intro w hSw; (try dsimp only at hSw); go_simp; (try with_reducible rfl))
    try simp only [Act.put, List.setIfInBounds_toArray, List.set_cons_zero, List.set_cons_succ]
    refine wpAnyH_take (i := 3) (oi := { dst := some 11, op := Op.fieldAddr 51 (Operand.tmp 3) 3, type := 0, pos := "ref.go:69", after := #[], guard := none }) (v := ?_) rfl (by kernel_rfl) (by kernel_rfl) (by kernel_rfl) (fun _ _ _ h => h) (Or.inl ⟨by rfl, ?_⟩) (by assumption) ?_
    rotate_left 1
    · (intro w hSw; (try dsimp only at hSw); go_simp; (try with_reducible rfl))
    try simp only [Act.put, List.setIfInBounds_toArray, List.set_cons_zero, List.set_cons_succ]
    refine wpAnyH_take (i := 4) (oi := { dst := some 12, op := Op.load 46 (Operand.tmp 11), type := 46, pos := "ref.go:69", after := #[{ on := 3, ground := Ground.data }], guard := none }) (v := ?_) rfl (by kernel_rfl) (by kernel_rfl) (by kernel_rfl) (fun _ _ _ h => h) (Or.inl ⟨by rfl, ?_⟩) (by assumption) ?_
    rotate_left 1
    · (intro w hSw; (try dsimp only at hSw); go_simp; (try with_reducible rfl))
    try simp only [Act.put, List.setIfInBounds_toArray, List.set_cons_zero, List.set_cons_succ]
    refine wpAnyH_ready (rs := [2, 6]) (by kernel_rfl) (by simp) ?_
    refine AllReadyH.cons (o := { dst := some 10, op := Op.call { callee := Callee.value (Operand.func 41), args := #[Operand.tmp 8, Operand.tmp 9], argTypes := #[3, 3] }, type := 9, pos := "ref.go:69", after := #[{ on := 0, ground := Ground.data }, { on := 1, ground := Ground.data }], guard := none }) rfl (fun K hK => ?_) (AllReadyH.cons (o := { dst := some 7, op := Op.alloc 56, type := 0, pos := "ref.go:69", after := #[], guard := none }) rfl (fun K hK => ?_) AllReadyH.nil)
    · go_simp
      go_at_call 41
      with_reducible refine (HK.out _).mono ?_
      rintro e w1 ⟨rfl, bb1⟩
      have B1 := Lib.hid (BR.out.trans (bb1.mono BR.out.size))
      have BB := Lib.hid bb1
      clear bb1
      go_wp2_with fail
      refine hK.out _ _ ?_ (fun hHeld => ?_)
      · exact HPr.out _ B1.out
      clear hK K
      try simp only [Act.put, List.setIfInBounds_toArray, List.set_cons_zero, List.set_cons_succ]
      refine wpAnyH_take (i := 5) (oi := { dst := some 13, op := Op.build 56 #[(0, Operand.tmp 10), (1, Operand.tmp 12)], type := 56, pos := "ref.go:69", after := #[{ on := 2, ground := Ground.data }, { on := 4, ground := Ground.data }], guard := none }) (v := ?_) rfl (by kernel_rfl) (by kernel_rfl) (by kernel_rfl) (fun _ _ _ h => h) (Or.inl ⟨by rfl, ?_⟩) (by assumption) ?_
      rotate_left 1
      · (intro w hSw; (try dsimp only at hSw); go_simp; (try with_reducible rfl))
      try simp only [Act.put, List.setIfInBounds_toArray, List.set_cons_zero, List.set_cons_succ]
      refine wpAnyH_ready (rs := [6]) (by kernel_rfl) (by simp) ?_
      refine AllReadyH.cons (o := { dst := some 7, op := Op.alloc 56, type := 0, pos := "ref.go:69", after := #[], guard := none }) rfl (fun K hK => ?_) AllReadyH.nil
      go_simp
      have B2 : Hid (Below W0.heap.size W0 (w1.alloc (.cells #[.string ⟨#[]⟩, .slice none 0 0, .slice none 0 0, .slice none 0 0, .slice none 0 0, .slice none 0 0, .slice none 0 0, .slice none 0 0, .slice none 0 0, .slice none 0 0, .slice none 0 0, .bool false, .bool false, .bool false, .bool false, .bool false] 56))) := B1.out.alloc B1.out.size _
      refine hK.out _ _ ?_ (fun hHeld => ?_)
      · exact HPr.out _ B2.out
      clear hK K
      try simp only [Act.put, List.setIfInBounds_toArray, List.set_cons_zero, List.set_cons_succ]
      refine wpAnyH_ready (rs := [7]) (by kernel_rfl) (by simp) ?_
      refine AllReadyH.cons rfl (fun K hK => ?_) AllReadyH.nil
      refine step_store_row15 rfl 56 _ _ rfl w1.heap.size #[.string C, .slice c.a0 c.n0 c.c0, .slice c.a1 c.n1 c.c1, .slice c.a2 c.n2 c.c2, .slice c.a3 c.n3 c.c3, .slice c.a4 c.n4 c.c4, .slice c.a5 c.n5 c.c5, .slice c.a6 c.n6 c.c6, .slice c.a7 c.n7 c.c7, .slice none 0 0, .slice none 0 0, .bool false, .bool false, .bool false, .bool false, .bool false] rfl rfl 56 #[.string ⟨#[]⟩, .slice none 0 0, .slice none 0 0, .slice none 0 0, .slice none 0 0, .slice none 0 0, .slice none 0 0, .slice none 0 0, .slice none 0 0, .slice none 0 0, .slice none 0 0, .bool false, .bool false, .bool false, .bool false, .bool false] (new_row w1 _ _ rfl) (by exact sizeInit25) (by rfl) (by simp [Value.oneCell']) ?_
      rw [alloc_setRow w1 _ _ _ rfl]
      have B3 : Hid (Below W0.heap.size W0 (w1.alloc (.cells #[.string C, .slice c.a0 c.n0 c.c0, .slice c.a1 c.n1 c.c1, .slice c.a2 c.n2 c.c2, .slice c.a3 c.n3 c.c3, .slice c.a4 c.n4 c.c4, .slice c.a5 c.n5 c.c5, .slice c.a6 c.n6 c.c6, .slice c.a7 c.n7 c.c7, .slice none 0 0, .slice none 0 0, .bool false, .bool false, .bool false, .bool false, .bool false] 56))) := B1.out.alloc B1.out.size _
      refine hK.out _ _ ?_ (fun hHeld => ?_)
      · exact HPr.out _ B3.out
      clear hK K
      try simp only [Act.put, List.setIfInBounds_toArray, List.set_cons_zero, List.set_cons_succ]
      refine wpAnyH_done (by kernel_rfl) ?_ _
      have HG : Hid (Holds (w1.alloc (.cells #[.string C, .slice c.a0 c.n0 c.c0, .slice c.a1 c.n1 c.c1, .slice c.a2 c.n2 c.c2, .slice c.a3 c.n3 c.c3, .slice c.a4 c.n4 c.c4, .slice c.a5 c.n5 c.c5, .slice c.a6 c.n6 c.c6, .slice c.a7 c.n7 c.c7, .slice none 0 0, .slice none 0 0, .bool false, .bool false, .bool false, .bool false, .bool false] 56)) w1.heap.size 56 #[.string C, .slice c.a0 c.n0 c.c0, .slice c.a1 c.n1 c.c1, .slice c.a2 c.n2 c.c2, .slice c.a3 c.n3 c.c3, .slice c.a4 c.n4 c.c4, .slice c.a5 c.n5 c.c5, .slice c.a6 c.n6 c.c6, .slice c.a7 c.n7 c.c7, .slice none 0 0, .slice none 0 0, .bool false, .bool false, .bool false, .bool false, .bool false]) := Lib.hid (Holds.new w1 56 #[.string C, .slice c.a0 c.n0 c.c0, .slice c.a1 c.n1 c.c1, .slice c.a2 c.n2 c.c2, .slice c.a3 c.n3 c.c3, .slice c.a4 c.n4 c.c4, .slice c.a5 c.n5 c.c5, .slice c.a6 c.n6 c.c6, .slice c.a7 c.n7 c.c7, .slice none 0 0, .slice none 0 0, .bool false, .bool false, .bool false, .bool false, .bool false])
      have hgB : W0.heap.size ≤ w1.heap.size := B1.out.size
      have hgn : w.heap.size + 1 ≠ w1.heap.size := by have := HS0.out; omega
      obtain ⟨W, hW⟩ : ∃ W, Hid (W = (w1.alloc (.cells #[.string C, .slice c.a0 c.n0 c.c0, .slice c.a1 c.n1 c.c1, .slice c.a2 c.n2 c.c2, .slice c.a3 c.n3 c.c3, .slice c.a4 c.n4 c.c4, .slice c.a5 c.n5 c.c5, .slice c.a6 c.n6 c.c6, .slice c.a7 c.n7 c.c7, .slice none 0 0, .slice none 0 0, .bool false, .bool false, .bool false, .bool false, .bool false] 56))) := ⟨_, Lib.hid rfl⟩
      rw [← hW.out] at HG B3 ⊢
      have hI3 := Lib.hid ((B3.out.block _ HI.out.lt).trans HI.out)
      obtain ⟨k0, _, _, _, _, _, _, _, _, k18, k19⟩ := HX.out _ B3.out
      clear hHeld HPr k0 k18 k19
      have y13 : W.cell? ⟨w1.heap.size, 13, none⟩ = some (.bool false) := Holds.cell HG.out 13
      have z13 : W.frozen? ⟨w1.heap.size, 13, none⟩ = false := Holds.frozen HG.out 13
      obtain ⟨k0, _, _, _, _, _, _, _, _, _, _⟩ := HX.out _ B3.out
      have g0 : Hid (Holds (W.setCell ⟨w1.heap.size, 13, none⟩ (.bool false)) w1.heap.size 56 #[.string C, .slice c.a0 c.n0 c.c0, .slice c.a1 c.n1 c.c1, .slice c.a2 c.n2 c.c2, .slice c.a3 c.n3 c.c3, .slice c.a4 c.n4 c.c4, .slice c.a5 c.n5 c.c5, .slice c.a6 c.n6 c.c6, .slice c.a7 c.n7 c.c7, .slice none 0 0, .slice none 0 0, .bool false, .bool false, .bool false, .bool false, .bool false]) := Lib.hid (holds_told25 HG.out (by kernel_rfl))
      have t0 : Hid (Holds (W.setCell ⟨w1.heap.size, 13, none⟩ (.bool false)) (w.heap.size + 1) 56 #[.string ⟨#[]⟩, .slice none 0 0, .slice none 0 0, .slice none 0 0, .slice none 0 0, .slice none 0 0, .slice none 0 0, .slice none 0 0, .slice none 0 0, .slice none 0 0, .slice none 0 0, .bool false, .bool false, .bool false, .bool false, .bool false]) := Lib.hid ((heap_setCell_other _ _ _ _ (by show w.heap.size + 1 ≠ w1.heap.size; exact hgn)).trans hI3.out)
      have B4 := Lib.hid (below_setCell25 B3.out (show W0.heap.size ≤ (⟨w1.heap.size, 13, none⟩ : Addr).block from hgB) (.bool false))
      clear HG hI3 B3
      go_upto_region 6 with fail
      clear y13 z13 k0
      generalize W.setCell ⟨w1.heap.size, 13, none⟩ (.bool false) = W7 at *
      have y11 : W7.cell? ⟨w1.heap.size, 11, none⟩ = some (.bool false) := Holds.cell g0.out 11
      have z11 : W7.frozen? ⟨w1.heap.size, 11, none⟩ = false := Holds.frozen g0.out 11
      obtain ⟨_, _, _, _, _, _, _, _, _, k18, _⟩ := HX.out _ B4.out
      have g1 : Hid (Holds (W7.setCell ⟨w1.heap.size, 11, none⟩ (.bool false)) w1.heap.size 56 #[.string C, .slice c.a0 c.n0 c.c0, .slice c.a1 c.n1 c.c1, .slice c.a2 c.n2 c.c2, .slice c.a3 c.n3 c.c3, .slice c.a4 c.n4 c.c4, .slice c.a5 c.n5 c.c5, .slice c.a6 c.n6 c.c6, .slice c.a7 c.n7 c.c7, .slice none 0 0, .slice none 0 0, .bool false, .bool false, .bool false, .bool false, .bool false]) := Lib.hid (holds_told25 g0.out (by kernel_rfl))
      have t1 : Hid (Holds (W7.setCell ⟨w1.heap.size, 11, none⟩ (.bool false)) (w.heap.size + 1) 56 #[.string ⟨#[]⟩, .slice none 0 0, .slice none 0 0, .slice none 0 0, .slice none 0 0, .slice none 0 0, .slice none 0 0, .slice none 0 0, .slice none 0 0, .slice none 0 0, .slice none 0 0, .bool false, .bool false, .bool false, .bool false, .bool false]) := Lib.hid ((heap_setCell_other _ _ _ _ (by show w.heap.size + 1 ≠ w1.heap.size; exact hgn)).trans t0.out)
      have B5 := Lib.hid (below_setCell25 B4.out (show W0.heap.size ≤ (⟨w1.heap.size, 11, none⟩ : Addr).block from hgB) (.bool false))
      clear g0 t0 B4
      go_upto_region 7 with fail
      clear y11 z11 k18
      generalize W7.setCell ⟨w1.heap.size, 11, none⟩ (.bool false) = W8 at *
      have y15 : W8.cell? ⟨w1.heap.size, 15, none⟩ = some (.bool false) := Holds.cell g1.out 15
      have z15 : W8.frozen? ⟨w1.heap.size, 15, none⟩ = false := Holds.frozen g1.out 15
      obtain ⟨_, _, _, _, _, _, _, _, _, _, k19⟩ := HX.out _ B5.out
      have g2 : Hid (Holds (W8.setCell ⟨w1.heap.size, 15, none⟩ (.bool gu)) w1.heap.size 56 #[.string C, .slice c.a0 c.n0 c.c0, .slice c.a1 c.n1 c.c1, .slice c.a2 c.n2 c.c2, .slice c.a3 c.n3 c.c3, .slice c.a4 c.n4 c.c4, .slice c.a5 c.n5 c.c5, .slice c.a6 c.n6 c.c6, .slice c.a7 c.n7 c.c7, .slice none 0 0, .slice none 0 0, .bool false, .bool false, .bool false, .bool false, .bool gu]) := Lib.hid (holds_told25 g1.out (by kernel_rfl))
      have t2 : Hid (Holds (W8.setCell ⟨w1.heap.size, 15, none⟩ (.bool gu)) (w.heap.size + 1) 56 #[.string ⟨#[]⟩, .slice none 0 0, .slice none 0 0, .slice none 0 0, .slice none 0 0, .slice none 0 0, .slice none 0 0, .slice none 0 0, .slice none 0 0, .slice none 0 0, .slice none 0 0, .bool false, .bool false, .bool false, .bool false, .bool false]) := Lib.hid ((heap_setCell_other _ _ _ _ (by show w.heap.size + 1 ≠ w1.heap.size; exact hgn)).trans t1.out)
      have B6 := Lib.hid (below_setCell25 B5.out (show W0.heap.size ≤ (⟨w1.heap.size, 15, none⟩ : Addr).block from hgB) (.bool gu))
      go_wp2_with (first
        | (refine wpList_load_row rfl 56 _ rfl w1.heap.size rfl 56 #[.string C, .slice c.a0 c.n0 c.c0, .slice c.a1 c.n1 c.c1, .slice c.a2 c.n2 c.c2, .slice c.a3 c.n3 c.c3, .slice c.a4 c.n4 c.c4, .slice c.a5 c.n5 c.c5, .slice c.a6 c.n6 c.c6, .slice c.a7 c.n7 c.c7, .slice none 0 0, .slice none 0 0, .bool false, .bool false, .bool false, .bool false, .bool gu] (0, 0) _ (by exact g2.out) Tryd.underlying56 rfl (by exact sizeInit25) ?_)
        | (refine wpList_store_row rfl 56 _ _ rfl (w.heap.size + 1) #[.string C, .slice c.a0 c.n0 c.c0, .slice c.a1 c.n1 c.c1, .slice c.a2 c.n2 c.c2, .slice c.a3 c.n3 c.c3, .slice c.a4 c.n4 c.c4, .slice c.a5 c.n5 c.c5, .slice c.a6 c.n6 c.c6, .slice c.a7 c.n7 c.c7, .slice none 0 0, .slice none 0 0, .bool false, .bool false, .bool false, .bool false, .bool gu] rfl rfl 56 #[.string ⟨#[]⟩, .slice none 0 0, .slice none 0 0, .slice none 0 0, .slice none 0 0, .slice none 0 0, .slice none 0 0, .slice none 0 0, .slice none 0 0, .slice none 0 0, .slice none 0 0, .bool false, .bool false, .bool false, .bool false, .bool false] (by exact t2.out) (by exact sizeInit25) (by rfl) (by simp [Value.oneCell']) ?_)
        | fail)
      refine bodyPost_ret (results_cell_row rfl _ _ (w.heap.size + 1) _ #[.string C, .slice c.a0 c.n0 c.c0, .slice c.a1 c.n1 c.c1, .slice c.a2 c.n2 c.c2, .slice c.a3 c.n3 c.c3, .slice c.a4 c.n4 c.c4, .slice c.a5 c.n5 c.c5, .slice c.a6 c.n6 c.c6, .slice c.a7 c.n7 c.c7, .slice none 0 0, .slice none 0 0, .bool false, .bool false, .bool false, .bool false, .bool gu] (0, 0) _ rfl (setRow_heap _ (w.heap.size + 1) #[.string ⟨#[]⟩, .slice none 0 0, .slice none 0 0, .slice none 0 0, .slice none 0 0, .slice none 0 0, .slice none 0 0, .slice none 0 0, .slice none 0 0, .slice none 0 0, .slice none 0 0, .bool false, .bool false, .bool false, .bool false, .bool false] #[.string C, .slice c.a0 c.n0 c.c0, .slice c.a1 c.n1 c.c1, .slice c.a2 c.n2 c.c2, .slice c.a3 c.n3 c.c3, .slice c.a4 c.n4 c.c4, .slice c.a5 c.n5 c.c5, .slice c.a6 c.n6 c.c6, .slice c.a7 c.n7 c.c7, .slice none 0 0, .slice none 0 0, .bool false, .bool false, .bool false, .bool false, .bool gu] 56 (0, 0) (by exact t2.out)) Tryd.underlying56 rfl (by exact sizeInit25)) rfl ?_
      exact ⟨rfl, below_setRow (HB.out.trans (B6.out.mono HB.out.size)) (by omega) _⟩
    · go_simp
      have B2 : Hid (Below W0.heap.size W0 (W0.drew.alloc (.cells #[.string ⟨#[]⟩, .slice none 0 0, .slice none 0 0, .slice none 0 0, .slice none 0 0, .slice none 0 0, .slice none 0 0, .slice none 0 0, .slice none 0 0, .slice none 0 0, .slice none 0 0, .bool false, .bool false, .bool false, .bool false, .bool false] 56))) := BR.out.alloc BR.out.size _
      have HI2 := Lib.hid (Holds.new W0.drew 56 #[.string ⟨#[]⟩, .slice none 0 0, .slice none 0 0, .slice none 0 0, .slice none 0 0, .slice none 0 0, .slice none 0 0, .slice none 0 0, .slice none 0 0, .slice none 0 0, .slice none 0 0, .bool false, .bool false, .bool false, .bool false, .bool false])
      refine hK.out _ _ ?_ (fun hHeld => ?_)
      · exact HPr.out _ B2.out
      clear hK K
      try simp only [Act.put, List.setIfInBounds_toArray, List.set_cons_zero, List.set_cons_succ]
      refine wpAnyH_ready (rs := [2]) (by kernel_rfl) (by simp) ?_
      refine AllReadyH.cons (o := { dst := some 10, op := Op.call { callee := Callee.value (Operand.func 41), args := #[Operand.tmp 8, Operand.tmp 9], argTypes := #[3, 3] }, type := 9, pos := "ref.go:69", after := #[{ on := 0, ground := Ground.data }, { on := 1, ground := Ground.data }], guard := none }) rfl (fun K hK => ?_) AllReadyH.nil
      go_simp
      go_at_call 41
      with_reducible refine (HK.out _).mono ?_
      rintro e w1 ⟨rfl, bb1⟩
      have B1 := Lib.hid (B2.out.trans (bb1.mono B2.out.size))
      have BB := Lib.hid bb1
      clear bb1
      go_wp2_with fail
      refine hK.out _ _ ?_ (fun hHeld => ?_)
      · exact HPr.out _ B1.out
      clear hK K
      try simp only [Act.put, List.setIfInBounds_toArray, List.set_cons_zero, List.set_cons_succ]
      refine wpAnyH_take (i := 5) (oi := { dst := some 13, op := Op.build 56 #[(0, Operand.tmp 10), (1, Operand.tmp 12)], type := 56, pos := "ref.go:69", after := #[{ on := 2, ground := Ground.data }, { on := 4, ground := Ground.data }], guard := none }) (v := ?_) rfl (by kernel_rfl) (by kernel_rfl) (by kernel_rfl) (fun _ _ _ h => h) (Or.inl ⟨by rfl, ?_⟩) (by assumption) ?_
      rotate_left 1
      · (intro w hSw; (try dsimp only at hSw); go_simp; (try with_reducible rfl))
      try simp only [Act.put, List.setIfInBounds_toArray, List.set_cons_zero, List.set_cons_succ]
      refine wpAnyH_ready (rs := [7]) (by kernel_rfl) (by simp) ?_
      refine AllReadyH.cons rfl (fun K hK => ?_) AllReadyH.nil
      refine step_store_row15 rfl 56 _ _ rfl W0.drew.heap.size #[.string C, .slice c.a0 c.n0 c.c0, .slice c.a1 c.n1 c.c1, .slice c.a2 c.n2 c.c2, .slice c.a3 c.n3 c.c3, .slice c.a4 c.n4 c.c4, .slice c.a5 c.n5 c.c5, .slice c.a6 c.n6 c.c6, .slice c.a7 c.n7 c.c7, .slice none 0 0, .slice none 0 0, .bool false, .bool false, .bool false, .bool false, .bool false] rfl rfl 56 #[.string ⟨#[]⟩, .slice none 0 0, .slice none 0 0, .slice none 0 0, .slice none 0 0, .slice none 0 0, .slice none 0 0, .slice none 0 0, .slice none 0 0, .slice none 0 0, .slice none 0 0, .bool false, .bool false, .bool false, .bool false, .bool false] ((BB.out.block _ HI2.out.lt).trans HI2.out) (by exact sizeInit25) (by rfl) (by simp [Value.oneCell']) ?_
      have B3 : Hid (Below W0.heap.size W0 (w1.setRow W0.drew.heap.size #[.string C, .slice c.a0 c.n0 c.c0, .slice c.a1 c.n1 c.c1, .slice c.a2 c.n2 c.c2, .slice c.a3 c.n3 c.c3, .slice c.a4 c.n4 c.c4, .slice c.a5 c.n5 c.c5, .slice c.a6 c.n6 c.c6, .slice c.a7 c.n7 c.c7, .slice none 0 0, .slice none 0 0, .bool false, .bool false, .bool false, .bool false, .bool false])) := Lib.hid (below_setRow (g := W0.drew.heap.size) B1.out (Nat.le_refl _) #[.string C, .slice c.a0 c.n0 c.c0, .slice c.a1 c.n1 c.c1, .slice c.a2 c.n2 c.c2, .slice c.a3 c.n3 c.c3, .slice c.a4 c.n4 c.c4, .slice c.a5 c.n5 c.c5, .slice c.a6 c.n6 c.c6, .slice c.a7 c.n7 c.c7, .slice none 0 0, .slice none 0 0, .bool false, .bool false, .bool false, .bool false, .bool false])
      refine hK.out _ _ ?_ (fun hHeld => ?_)
      · exact HPr.out _ B3.out
      clear hK K
      try simp only [Act.put, List.setIfInBounds_toArray, List.set_cons_zero, List.set_cons_succ]
      refine wpAnyH_done (by kernel_rfl) ?_ _
      have HG : Hid (Holds (w1.setRow W0.drew.heap.size #[.string C, .slice c.a0 c.n0 c.c0, .slice c.a1 c.n1 c.c1, .slice c.a2 c.n2 c.c2, .slice c.a3 c.n3 c.c3, .slice c.a4 c.n4 c.c4, .slice c.a5 c.n5 c.c5, .slice c.a6 c.n6 c.c6, .slice c.a7 c.n7 c.c7, .slice none 0 0, .slice none 0 0, .bool false, .bool false, .bool false, .bool false, .bool false]) W0.heap.size 56 #[.string C, .slice c.a0 c.n0 c.c0, .slice c.a1 c.n1 c.c1, .slice c.a2 c.n2 c.c2, .slice c.a3 c.n3 c.c3, .slice c.a4 c.n4 c.c4, .slice c.a5 c.n5 c.c5, .slice c.a6 c.n6 c.c6, .slice c.a7 c.n7 c.c7, .slice none 0 0, .slice none 0 0, .bool false, .bool false, .bool false, .bool false, .bool false]) := Lib.hid (setRow_heap w1 W0.heap.size #[.string ⟨#[]⟩, .slice none 0 0, .slice none 0 0, .slice none 0 0, .slice none 0 0, .slice none 0 0, .slice none 0 0, .slice none 0 0, .slice none 0 0, .slice none 0 0, .slice none 0 0, .bool false, .bool false, .bool false, .bool false, .bool false] #[.string C, .slice c.a0 c.n0 c.c0, .slice c.a1 c.n1 c.c1, .slice c.a2 c.n2 c.c2, .slice c.a3 c.n3 c.c3, .slice c.a4 c.n4 c.c4, .slice c.a5 c.n5 c.c5, .slice c.a6 c.n6 c.c6, .slice c.a7 c.n7 c.c7, .slice none 0 0, .slice none 0 0, .bool false, .bool false, .bool false, .bool false, .bool false] 56 (0, 0) ((BB.out.block _ HI2.out.lt).trans HI2.out))
      have hgB : W0.heap.size ≤ W0.heap.size := Nat.le_refl _
      have hgn : w.heap.size + 1 ≠ W0.heap.size := by have := HS0.out; omega
      obtain ⟨W, hW⟩ : ∃ W, Hid (W = (w1.setRow W0.drew.heap.size #[.string C, .slice c.a0 c.n0 c.c0, .slice c.a1 c.n1 c.c1, .slice c.a2 c.n2 c.c2, .slice c.a3 c.n3 c.c3, .slice c.a4 c.n4 c.c4, .slice c.a5 c.n5 c.c5, .slice c.a6 c.n6 c.c6, .slice c.a7 c.n7 c.c7, .slice none 0 0, .slice none 0 0, .bool false, .bool false, .bool false, .bool false, .bool false])) := ⟨_, Lib.hid rfl⟩
      rw [← hW.out] at HG B3 ⊢
      have hI3 := Lib.hid ((B3.out.block _ HI.out.lt).trans HI.out)
      obtain ⟨k0, _, _, _, _, _, _, _, _, k18, k19⟩ := HX.out _ B3.out
      clear hHeld HPr k0 k18 k19
      have y13 : W.cell? ⟨W0.heap.size, 13, none⟩ = some (.bool false) := Holds.cell HG.out 13
      have z13 : W.frozen? ⟨W0.heap.size, 13, none⟩ = false := Holds.frozen HG.out 13
      obtain ⟨k0, _, _, _, _, _, _, _, _, _, _⟩ := HX.out _ B3.out
      have g0 : Hid (Holds (W.setCell ⟨W0.heap.size, 13, none⟩ (.bool false)) W0.heap.size 56 #[.string C, .slice c.a0 c.n0 c.c0, .slice c.a1 c.n1 c.c1, .slice c.a2 c.n2 c.c2, .slice c.a3 c.n3 c.c3, .slice c.a4 c.n4 c.c4, .slice c.a5 c.n5 c.c5, .slice c.a6 c.n6 c.c6, .slice c.a7 c.n7 c.c7, .slice none 0 0, .slice none 0 0, .bool false, .bool false, .bool false, .bool false, .bool false]) := Lib.hid (holds_told25 HG.out (by kernel_rfl))
      have t0 : Hid (Holds (W.setCell ⟨W0.heap.size, 13, none⟩ (.bool false)) (w.heap.size + 1) 56 #[.string ⟨#[]⟩, .slice none 0 0, .slice none 0 0, .slice none 0 0, .slice none 0 0, .slice none 0 0, .slice none 0 0, .slice none 0 0, .slice none 0 0, .slice none 0 0, .slice none 0 0, .bool false, .bool false, .bool false, .bool false, .bool false]) := Lib.hid ((heap_setCell_other _ _ _ _ (by show w.heap.size + 1 ≠ W0.heap.size; exact hgn)).trans hI3.out)
      have B4 := Lib.hid (below_setCell25 B3.out (show W0.heap.size ≤ (⟨W0.heap.size, 13, none⟩ : Addr).block from hgB) (.bool false))
      clear HG hI3 B3
      go_upto_region 6 with fail
      clear y13 z13 k0
      generalize W.setCell ⟨W0.heap.size, 13, none⟩ (.bool false) = W7 at *
      have y11 : W7.cell? ⟨W0.heap.size, 11, none⟩ = some (.bool false) := Holds.cell g0.out 11
      have z11 : W7.frozen? ⟨W0.heap.size, 11, none⟩ = false := Holds.frozen g0.out 11
      obtain ⟨_, _, _, _, _, _, _, _, _, k18, _⟩ := HX.out _ B4.out
      have g1 : Hid (Holds (W7.setCell ⟨W0.heap.size, 11, none⟩ (.bool false)) W0.heap.size 56 #[.string C, .slice c.a0 c.n0 c.c0, .slice c.a1 c.n1 c.c1, .slice c.a2 c.n2 c.c2, .slice c.a3 c.n3 c.c3, .slice c.a4 c.n4 c.c4, .slice c.a5 c.n5 c.c5, .slice c.a6 c.n6 c.c6, .slice c.a7 c.n7 c.c7, .slice none 0 0, .slice none 0 0, .bool false, .bool false, .bool false, .bool false, .bool false]) := Lib.hid (holds_told25 g0.out (by kernel_rfl))
      have t1 : Hid (Holds (W7.setCell ⟨W0.heap.size, 11, none⟩ (.bool false)) (w.heap.size + 1) 56 #[.string ⟨#[]⟩, .slice none 0 0, .slice none 0 0, .slice none 0 0, .slice none 0 0, .slice none 0 0, .slice none 0 0, .slice none 0 0, .slice none 0 0, .slice none 0 0, .slice none 0 0, .bool false, .bool false, .bool false, .bool false, .bool false]) := Lib.hid ((heap_setCell_other _ _ _ _ (by show w.heap.size + 1 ≠ W0.heap.size; exact hgn)).trans t0.out)
      have B5 := Lib.hid (below_setCell25 B4.out (show W0.heap.size ≤ (⟨W0.heap.size, 11, none⟩ : Addr).block from hgB) (.bool false))
      clear g0 t0 B4
      go_upto_region 7 with fail
      clear y11 z11 k18
      generalize W7.setCell ⟨W0.heap.size, 11, none⟩ (.bool false) = W8 at *
      have y15 : W8.cell? ⟨W0.heap.size, 15, none⟩ = some (.bool false) := Holds.cell g1.out 15
      have z15 : W8.frozen? ⟨W0.heap.size, 15, none⟩ = false := Holds.frozen g1.out 15
      obtain ⟨_, _, _, _, _, _, _, _, _, _, k19⟩ := HX.out _ B5.out
      have g2 : Hid (Holds (W8.setCell ⟨W0.heap.size, 15, none⟩ (.bool gu)) W0.heap.size 56 #[.string C, .slice c.a0 c.n0 c.c0, .slice c.a1 c.n1 c.c1, .slice c.a2 c.n2 c.c2, .slice c.a3 c.n3 c.c3, .slice c.a4 c.n4 c.c4, .slice c.a5 c.n5 c.c5, .slice c.a6 c.n6 c.c6, .slice c.a7 c.n7 c.c7, .slice none 0 0, .slice none 0 0, .bool false, .bool false, .bool false, .bool false, .bool gu]) := Lib.hid (holds_told25 g1.out (by kernel_rfl))
      have t2 : Hid (Holds (W8.setCell ⟨W0.heap.size, 15, none⟩ (.bool gu)) (w.heap.size + 1) 56 #[.string ⟨#[]⟩, .slice none 0 0, .slice none 0 0, .slice none 0 0, .slice none 0 0, .slice none 0 0, .slice none 0 0, .slice none 0 0, .slice none 0 0, .slice none 0 0, .slice none 0 0, .bool false, .bool false, .bool false, .bool false, .bool false]) := Lib.hid ((heap_setCell_other _ _ _ _ (by show w.heap.size + 1 ≠ W0.heap.size; exact hgn)).trans t1.out)
      have B6 := Lib.hid (below_setCell25 B5.out (show W0.heap.size ≤ (⟨W0.heap.size, 15, none⟩ : Addr).block from hgB) (.bool gu))
      go_wp2_with (first
        | (refine wpList_load_row rfl 56 _ rfl W0.heap.size rfl 56 #[.string C, .slice c.a0 c.n0 c.c0, .slice c.a1 c.n1 c.c1, .slice c.a2 c.n2 c.c2, .slice c.a3 c.n3 c.c3, .slice c.a4 c.n4 c.c4, .slice c.a5 c.n5 c.c5, .slice c.a6 c.n6 c.c6, .slice c.a7 c.n7 c.c7, .slice none 0 0, .slice none 0 0, .bool false, .bool false, .bool false, .bool false, .bool gu] (0, 0) _ (by exact g2.out) Tryd.underlying56 rfl (by exact sizeInit25) ?_)
        | (refine wpList_store_row rfl 56 _ _ rfl (w.heap.size + 1) #[.string C, .slice c.a0 c.n0 c.c0, .slice c.a1 c.n1 c.c1, .slice c.a2 c.n2 c.c2, .slice c.a3 c.n3 c.c3, .slice c.a4 c.n4 c.c4, .slice c.a5 c.n5 c.c5, .slice c.a6 c.n6 c.c6, .slice c.a7 c.n7 c.c7, .slice none 0 0, .slice none 0 0, .bool false, .bool false, .bool false, .bool false, .bool gu] rfl rfl 56 #[.string ⟨#[]⟩, .slice none 0 0, .slice none 0 0, .slice none 0 0, .slice none 0 0, .slice none 0 0, .slice none 0 0, .slice none 0 0, .slice none 0 0, .slice none 0 0, .slice none 0 0, .bool false, .bool false, .bool false, .bool false, .bool false] (by exact t2.out) (by exact sizeInit25) (by rfl) (by simp [Value.oneCell']) ?_)
        | fail)
      refine bodyPost_ret (results_cell_row rfl _ _ (w.heap.size + 1) _ #[.string C, .slice c.a0 c.n0 c.c0, .slice c.a1 c.n1 c.c1, .slice c.a2 c.n2 c.c2, .slice c.a3 c.n3 c.c3, .slice c.a4 c.n4 c.c4, .slice c.a5 c.n5 c.c5, .slice c.a6 c.n6 c.c6, .slice c.a7 c.n7 c.c7, .slice none 0 0, .slice none 0 0, .bool false, .bool false, .bool false, .bool false, .bool gu] (0, 0) _ rfl (setRow_heap _ (w.heap.size + 1) #[.string ⟨#[]⟩, .slice none 0 0, .slice none 0 0, .slice none 0 0, .slice none 0 0, .slice none 0 0, .slice none 0 0, .slice none 0 0, .slice none 0 0, .slice none 0 0, .slice none 0 0, .bool false, .bool false, .bool false, .bool false, .bool false] #[.string C, .slice c.a0 c.n0 c.c0, .slice c.a1 c.n1 c.c1, .slice c.a2 c.n2 c.c2, .slice c.a3 c.n3 c.c3, .slice c.a4 c.n4 c.c4, .slice c.a5 c.n5 c.c5, .slice c.a6 c.n6 c.c6, .slice c.a7 c.n7 c.c7, .slice none 0 0, .slice none 0 0, .bool false, .bool false, .bool false, .bool false, .bool gu] 56 (0, 0) (by exact t2.out)) Tryd.underlying56 rfl (by exact sizeInit25)) rfl ?_
      exact ⟨rfl, below_setRow (HB.out.trans (B6.out.mono HB.out.size)) (by omega) _⟩
  · refine wp_region_held_drew (S := fun w' => w'.cell? ⟨w.heap.size, 3, none⟩ = some (.slice c.a0 c.n0 c.c0) ∧ w'.cell? ⟨w.heap.size, 4, none⟩ = some (.slice c.a1 c.n1 c.c1) ∧ w'.cell? ⟨w.heap.size, 5, none⟩ = some (.slice c.a2 c.n2 c.c2) ∧ w'.cell? ⟨w.heap.size, 6, none⟩ = some (.slice c.a3 c.n3 c.c3) ∧ w'.cell? ⟨w.heap.size, 7, none⟩ = some (.slice c.a4 c.n4 c.c4) ∧ w'.cell? ⟨w.heap.size, 8, none⟩ = some (.slice c.a5 c.n5 c.c5) ∧ w'.cell? ⟨w.heap.size, 9, none⟩ = some (.slice c.a6 c.n6 c.c6) ∧ w'.cell? ⟨w.heap.size, 10, none⟩ = some (.slice c.a7 c.n7 c.c7)) (by kernel_rfl) ?_ (fun hHeld => ?_)
    · exact HPr.out _ BR.out
    refine wpAnyH_take (i := 0) (oi := { dst := some 8, op := Op.move (Operand.tmp 1), type := 3, pos := "ref.go:69", after := #[], guard := none }) (v := ?_) rfl (by kernel_rfl) (by kernel_rfl) (by kernel_rfl) (fun _ _ _ h => h) (Or.inl ⟨by rfl, ?_⟩) (by assumption) ?_
    rotate_left 1
    · (intro w hSw; (try dsimp only at hSw); go_simp; (try with_reducible rfl))
    try simp only [Act.put, List.setIfInBounds_toArray, List.set_cons_zero, List.set_cons_succ]
    refine wpAnyH_take (i := 1) (oi := { dst := some 9, op := Op.move (Operand.tmp 2), type := 3, pos := "ref.go:69", after := #[], guard := none }) (v := ?_) rfl (by kernel_rfl) (by kernel_rfl) (by kernel_rfl) (fun _ _ _ h => h) (Or.inl ⟨by rfl, ?_⟩) (by assumption) ?_
    rotate_left 1
    · (intro w hSw; (try dsimp only at hSw); go_simp; (try with_reducible rfl))
    try simp only [Act.put, List.setIfInBounds_toArray, List.set_cons_zero, List.set_cons_succ]
    refine wpAnyH_take (i := 3) (oi := { dst := some 11, op := Op.fieldAddr 51 (Operand.tmp 3) 3, type := 0, pos := "ref.go:69", after := #[], guard := none }) (v := ?_) rfl (by kernel_rfl) (by kernel_rfl) (by kernel_rfl) (fun _ _ _ h => h) (Or.inl ⟨by rfl, ?_⟩) (by assumption) ?_
    rotate_left 1
    · (intro w hSw; (try dsimp only at hSw); go_simp; (try with_reducible rfl))
    try simp only [Act.put, List.setIfInBounds_toArray, List.set_cons_zero, List.set_cons_succ]
    refine wpAnyH_take (i := 4) (oi := { dst := some 12, op := Op.load 46 (Operand.tmp 11), type := 46, pos := "ref.go:69", after := #[{ on := 3, ground := Ground.data }], guard := none }) (v := ?_) rfl (by kernel_rfl) (by kernel_rfl) (by kernel_rfl) (fun _ _ _ h => h) (Or.inl ⟨by rfl, ?_⟩) (by assumption) ?_
    rotate_left 1
    · (intro w hSw; (try dsimp only at hSw); go_simp; (try with_reducible rfl))
    try simp only [Act.put, List.setIfInBounds_toArray, List.set_cons_zero, List.set_cons_succ]
    refine wpAnyH_ready (rs := [2, 6]) (by kernel_rfl) (by simp) ?_
    refine AllReadyH.cons (o := { dst := some 10, op := Op.call { callee := Callee.value (Operand.func 41), args := #[Operand.tmp 8, Operand.tmp 9], argTypes := #[3, 3] }, type := 9, pos := "ref.go:69", after := #[{ on := 0, ground := Ground.data }, { on := 1, ground := Ground.data }], guard := none }) rfl (fun K hK => ?_) (AllReadyH.cons (o := { dst := some 7, op := Op.alloc 56, type := 0, pos := "ref.go:69", after := #[], guard := none }) rfl (fun K hK => ?_) AllReadyH.nil)
    · go_simp
      go_at_call 41
      with_reducible refine (HK.out _).mono ?_
      rintro e w1 ⟨rfl, bb1⟩
      have B1 := Lib.hid (BR.out.trans (bb1.mono BR.out.size))
      have BB := Lib.hid bb1
      clear bb1
      go_wp2_with fail
      refine hK.out _ _ ?_ (fun hHeld => ?_)
      · exact HPr.out _ B1.out
      clear hK K
      try simp only [Act.put, List.setIfInBounds_toArray, List.set_cons_zero, List.set_cons_succ]
      refine wpAnyH_take (i := 5) (oi := { dst := some 13, op := Op.build 56 #[(0, Operand.tmp 10), (1, Operand.tmp 12)], type := 56, pos := "ref.go:69", after := #[{ on := 2, ground := Ground.data }, { on := 4, ground := Ground.data }], guard := none }) (v := ?_) rfl (by kernel_rfl) (by kernel_rfl) (by kernel_rfl) (fun _ _ _ h => h) (Or.inl ⟨by rfl, ?_⟩) (by assumption) ?_
      rotate_left 1
      · (intro w hSw; (try dsimp only at hSw); go_simp; (try with_reducible rfl))
      try simp only [Act.put, List.setIfInBounds_toArray, List.set_cons_zero, List.set_cons_succ]
      refine wpAnyH_ready (rs := [6]) (by kernel_rfl) (by simp) ?_
      refine AllReadyH.cons (o := { dst := some 7, op := Op.alloc 56, type := 0, pos := "ref.go:69", after := #[], guard := none }) rfl (fun K hK => ?_) AllReadyH.nil
      go_simp
      have B2 : Hid (Below W0.heap.size W0 (w1.alloc (.cells #[.string ⟨#[]⟩, .slice none 0 0, .slice none 0 0, .slice none 0 0, .slice none 0 0, .slice none 0 0, .slice none 0 0, .slice none 0 0, .slice none 0 0, .slice none 0 0, .slice none 0 0, .bool false, .bool false, .bool false, .bool false, .bool false] 56))) := B1.out.alloc B1.out.size _
      refine hK.out _ _ ?_ (fun hHeld => ?_)
      · exact HPr.out _ B2.out
      clear hK K
      try simp only [Act.put, List.setIfInBounds_toArray, List.set_cons_zero, List.set_cons_succ]
      refine wpAnyH_ready (rs := [7]) (by kernel_rfl) (by simp) ?_
      refine AllReadyH.cons rfl (fun K hK => ?_) AllReadyH.nil
      refine step_store_row15 rfl 56 _ _ rfl w1.heap.size #[.string C, .slice c.a0 c.n0 c.c0, .slice c.a1 c.n1 c.c1, .slice c.a2 c.n2 c.c2, .slice c.a3 c.n3 c.c3, .slice c.a4 c.n4 c.c4, .slice c.a5 c.n5 c.c5, .slice c.a6 c.n6 c.c6, .slice c.a7 c.n7 c.c7, .slice none 0 0, .slice none 0 0, .bool false, .bool false, .bool false, .bool false, .bool false] rfl rfl 56 #[.string ⟨#[]⟩, .slice none 0 0, .slice none 0 0, .slice none 0 0, .slice none 0 0, .slice none 0 0, .slice none 0 0, .slice none 0 0, .slice none 0 0, .slice none 0 0, .slice none 0 0, .bool false, .bool false, .bool false, .bool false, .bool false] (new_row w1 _ _ rfl) (by exact sizeInit25) (by rfl) (by simp [Value.oneCell']) ?_
      rw [alloc_setRow w1 _ _ _ rfl]
      have B3 : Hid (Below W0.heap.size W0 (w1.alloc (.cells #[.string C, .slice c.a0 c.n0 c.c0, .slice c.a1 c.n1 c.c1, .slice c.a2 c.n2 c.c2, .slice c.a3 c.n3 c.c3, .slice c.a4 c.n4 c.c4, .slice c.a5 c.n5 c.c5, .slice c.a6 c.n6 c.c6, .slice c.a7 c.n7 c.c7, .slice none 0 0, .slice none 0 0, .bool false, .bool false, .bool false, .bool false, .bool false] 56))) := B1.out.alloc B1.out.size _
      refine hK.out _ _ ?_ (fun hHeld => ?_)
      · exact HPr.out _ B3.out
      clear hK K
      try simp only [Act.put, List.setIfInBounds_toArray, List.set_cons_zero, List.set_cons_succ]
      refine wpAnyH_done (by kernel_rfl) ?_ _
      have HG : Hid (Holds (w1.alloc (.cells #[.string C, .slice c.a0 c.n0 c.c0, .slice c.a1 c.n1 c.c1, .slice c.a2 c.n2 c.c2, .slice c.a3 c.n3 c.c3, .slice c.a4 c.n4 c.c4, .slice c.a5 c.n5 c.c5, .slice c.a6 c.n6 c.c6, .slice c.a7 c.n7 c.c7, .slice none 0 0, .slice none 0 0, .bool false, .bool false, .bool false, .bool false, .bool false] 56)) w1.heap.size 56 #[.string C, .slice c.a0 c.n0 c.c0, .slice c.a1 c.n1 c.c1, .slice c.a2 c.n2 c.c2, .slice c.a3 c.n3 c.c3, .slice c.a4 c.n4 c.c4, .slice c.a5 c.n5 c.c5, .slice c.a6 c.n6 c.c6, .slice c.a7 c.n7 c.c7, .slice none 0 0, .slice none 0 0, .bool false, .bool false, .bool false, .bool false, .bool false]) := Lib.hid (Holds.new w1 56 #[.string C, .slice c.a0 c.n0 c.c0, .slice c.a1 c.n1 c.c1, .slice c.a2 c.n2 c.c2, .slice c.a3 c.n3 c.c3, .slice c.a4 c.n4 c.c4, .slice c.a5 c.n5 c.c5, .slice c.a6 c.n6 c.c6, .slice c.a7 c.n7 c.c7, .slice none 0 0, .slice none 0 0, .bool false, .bool false, .bool false, .bool false, .bool false])
      have hgB : W0.heap.size ≤ w1.heap.size := B1.out.size
      have hgn : w.heap.size + 1 ≠ w1.heap.size := by have := HS0.out; omega
      obtain ⟨W, hW⟩ : ∃ W, Hid (W = (w1.alloc (.cells #[.string C, .slice c.a0 c.n0 c.c0, .slice c.a1 c.n1 c.c1, .slice c.a2 c.n2 c.c2, .slice c.a3 c.n3 c.c3, .slice c.a4 c.n4 c.c4, .slice c.a5 c.n5 c.c5, .slice c.a6 c.n6 c.c6, .slice c.a7 c.n7 c.c7, .slice none 0 0, .slice none 0 0, .bool false, .bool false, .bool false, .bool false, .bool false] 56))) := ⟨_, Lib.hid rfl⟩
      rw [← hW.out] at HG B3 ⊢
      have hI3 := Lib.hid ((B3.out.block _ HI.out.lt).trans HI.out)
      obtain ⟨k0, _, _, _, _, _, _, _, _, k18, k19⟩ := HX.out _ B3.out
      clear hHeld HPr k0 k18 k19
      have y13 : W.cell? ⟨w1.heap.size, 13, none⟩ = some (.bool false) := Holds.cell HG.out 13
      have z13 : W.frozen? ⟨w1.heap.size, 13, none⟩ = false := Holds.frozen HG.out 13
      obtain ⟨k0, _, _, _, _, _, _, _, _, _, _⟩ := HX.out _ B3.out
      have g0 : Hid (Holds (W.setCell ⟨w1.heap.size, 13, none⟩ (.bool false)) w1.heap.size 56 #[.string C, .slice c.a0 c.n0 c.c0, .slice c.a1 c.n1 c.c1, .slice c.a2 c.n2 c.c2, .slice c.a3 c.n3 c.c3, .slice c.a4 c.n4 c.c4, .slice c.a5 c.n5 c.c5, .slice c.a6 c.n6 c.c6, .slice c.a7 c.n7 c.c7, .slice none 0 0, .slice none 0 0, .bool false, .bool false, .bool false, .bool false, .bool false]) := Lib.hid (holds_told25 HG.out (by kernel_rfl))
      have t0 : Hid (Holds (W.setCell ⟨w1.heap.size, 13, none⟩ (.bool false)) (w.heap.size + 1) 56 #[.string ⟨#[]⟩, .slice none 0 0, .slice none 0 0, .slice none 0 0, .slice none 0 0, .slice none 0 0, .slice none 0 0, .slice none 0 0, .slice none 0 0, .slice none 0 0, .slice none 0 0, .bool false, .bool false, .bool false, .bool false, .bool false]) := Lib.hid ((heap_setCell_other _ _ _ _ (by show w.heap.size + 1 ≠ w1.heap.size; exact hgn)).trans hI3.out)
      have B4 := Lib.hid (below_setCell25 B3.out (show W0.heap.size ≤ (⟨w1.heap.size, 13, none⟩ : Addr).block from hgB) (.bool false))
      clear HG hI3 B3
      go_upto_region 6 with fail
      clear y13 z13 k0
      generalize W.setCell ⟨w1.heap.size, 13, none⟩ (.bool false) = W7 at *
      have y11 : W7.cell? ⟨w1.heap.size, 11, none⟩ = some (.bool false) := Holds.cell g0.out 11
      have z11 : W7.frozen? ⟨w1.heap.size, 11, none⟩ = false := Holds.frozen g0.out 11
      obtain ⟨_, _, _, _, _, _, _, _, _, k18, _⟩ := HX.out _ B4.out
      have g1 : Hid (Holds (W7.setCell ⟨w1.heap.size, 11, none⟩ (.bool false)) w1.heap.size 56 #[.string C, .slice c.a0 c.n0 c.c0, .slice c.a1 c.n1 c.c1, .slice c.a2 c.n2 c.c2, .slice c.a3 c.n3 c.c3, .slice c.a4 c.n4 c.c4, .slice c.a5 c.n5 c.c5, .slice c.a6 c.n6 c.c6, .slice c.a7 c.n7 c.c7, .slice none 0 0, .slice none 0 0, .bool false, .bool false, .bool false, .bool false, .bool false]) := Lib.hid (holds_told25 g0.out (by kernel_rfl))
      have t1 : Hid (Holds (W7.setCell ⟨w1.heap.size, 11, none⟩ (.bool false)) (w.heap.size + 1) 56 #[.string ⟨#[]⟩, .slice none 0 0, .slice none 0 0, .slice none 0 0, .slice none 0 0, .slice none 0 0, .slice none 0 0, .slice none 0 0, .slice none 0 0, .slice none 0 0, .slice none 0 0, .bool false, .bool false, .bool false, .bool false, .bool false]) := Lib.hid ((heap_setCell_other _ _ _ _ (by show w.heap.size + 1 ≠ w1.heap.size; exact hgn)).trans t0.out)
      have B5 := Lib.hid (below_setCell25 B4.out (show W0.heap.size ≤ (⟨w1.heap.size, 11, none⟩ : Addr).block from hgB) (.bool false))
      clear g0 t0 B4
      go_upto_region 7 with fail
      clear y11 z11 k18
      generalize W7.setCell ⟨w1.heap.size, 11, none⟩ (.bool false) = W8 at *
      have y15 : W8.cell? ⟨w1.heap.size, 15, none⟩ = some (.bool false) := Holds.cell g1.out 15
      have z15 : W8.frozen? ⟨w1.heap.size, 15, none⟩ = false := Holds.frozen g1.out 15
      obtain ⟨_, _, _, _, _, _, _, _, _, _, k19⟩ := HX.out _ B5.out
      have g2 : Hid (Holds (W8.setCell ⟨w1.heap.size, 15, none⟩ (.bool gu)) w1.heap.size 56 #[.string C, .slice c.a0 c.n0 c.c0, .slice c.a1 c.n1 c.c1, .slice c.a2 c.n2 c.c2, .slice c.a3 c.n3 c.c3, .slice c.a4 c.n4 c.c4, .slice c.a5 c.n5 c.c5, .slice c.a6 c.n6 c.c6, .slice c.a7 c.n7 c.c7, .slice none 0 0, .slice none 0 0, .bool false, .bool false, .bool false, .bool false, .bool gu]) := Lib.hid (holds_told25 g1.out (by kernel_rfl))
      have t2 : Hid (Holds (W8.setCell ⟨w1.heap.size, 15, none⟩ (.bool gu)) (w.heap.size + 1) 56 #[.string ⟨#[]⟩, .slice none 0 0, .slice none 0 0, .slice none 0 0, .slice none 0 0, .slice none 0 0, .slice none 0 0, .slice none 0 0, .slice none 0 0, .slice none 0 0, .slice none 0 0, .bool false, .bool false, .bool false, .bool false, .bool false]) := Lib.hid ((heap_setCell_other _ _ _ _ (by show w.heap.size + 1 ≠ w1.heap.size; exact hgn)).trans t1.out)
      have B6 := Lib.hid (below_setCell25 B5.out (show W0.heap.size ≤ (⟨w1.heap.size, 15, none⟩ : Addr).block from hgB) (.bool gu))
      go_wp2_with (first
        | (refine wpList_load_row rfl 56 _ rfl w1.heap.size rfl 56 #[.string C, .slice c.a0 c.n0 c.c0, .slice c.a1 c.n1 c.c1, .slice c.a2 c.n2 c.c2, .slice c.a3 c.n3 c.c3, .slice c.a4 c.n4 c.c4, .slice c.a5 c.n5 c.c5, .slice c.a6 c.n6 c.c6, .slice c.a7 c.n7 c.c7, .slice none 0 0, .slice none 0 0, .bool false, .bool false, .bool false, .bool false, .bool gu] (0, 0) _ (by exact g2.out) Tryd.underlying56 rfl (by exact sizeInit25) ?_)
        | (refine wpList_store_row rfl 56 _ _ rfl (w.heap.size + 1) #[.string C, .slice c.a0 c.n0 c.c0, .slice c.a1 c.n1 c.c1, .slice c.a2 c.n2 c.c2, .slice c.a3 c.n3 c.c3, .slice c.a4 c.n4 c.c4, .slice c.a5 c.n5 c.c5, .slice c.a6 c.n6 c.c6, .slice c.a7 c.n7 c.c7, .slice none 0 0, .slice none 0 0, .bool false, .bool false, .bool false, .bool false, .bool gu] rfl rfl 56 #[.string ⟨#[]⟩, .slice none 0 0, .slice none 0 0, .slice none 0 0, .slice none 0 0, .slice none 0 0, .slice none 0 0, .slice none 0 0, .slice none 0 0, .slice none 0 0, .slice none 0 0, .bool false, .bool false, .bool false, .bool false, .bool false] (by exact t2.out) (by exact sizeInit25) (by rfl) (by simp [Value.oneCell']) ?_)
        | fail)
      refine bodyPost_ret (results_cell_row rfl _ _ (w.heap.size + 1) _ #[.string C, .slice c.a0 c.n0 c.c0, .slice c.a1 c.n1 c.c1, .slice c.a2 c.n2 c.c2, .slice c.a3 c.n3 c.c3, .slice c.a4 c.n4 c.c4, .slice c.a5 c.n5 c.c5, .slice c.a6 c.n6 c.c6, .slice c.a7 c.n7 c.c7, .slice none 0 0, .slice none 0 0, .bool false, .bool false, .bool false, .bool false, .bool gu] (0, 0) _ rfl (setRow_heap _ (w.heap.size + 1) #[.string ⟨#[]⟩, .slice none 0 0, .slice none 0 0, .slice none 0 0, .slice none 0 0, .slice none 0 0, .slice none 0 0, .slice none 0 0, .slice none 0 0, .slice none 0 0, .slice none 0 0, .bool false, .bool false, .bool false, .bool false, .bool false] #[.string C, .slice c.a0 c.n0 c.c0, .slice c.a1 c.n1 c.c1, .slice c.a2 c.n2 c.c2, .slice c.a3 c.n3 c.c3, .slice c.a4 c.n4 c.c4, .slice c.a5 c.n5 c.c5, .slice c.a6 c.n6 c.c6, .slice c.a7 c.n7 c.c7, .slice none 0 0, .slice none 0 0, .bool false, .bool false, .bool false, .bool false, .bool gu] 56 (0, 0) (by exact t2.out)) Tryd.underlying56 rfl (by exact sizeInit25)) rfl ?_
      exact ⟨rfl, below_setRow (HB.out.trans (B6.out.mono HB.out.size)) (by omega) _⟩
    · go_simp
      have B2 : Hid (Below W0.heap.size W0 (W0.drew.alloc (.cells #[.string ⟨#[]⟩, .slice none 0 0, .slice none 0 0, .slice none 0 0, .slice none 0 0, .slice none 0 0, .slice none 0 0, .slice none 0 0, .slice none 0 0, .slice none 0 0, .slice none 0 0, .bool false, .bool false, .bool false, .bool false, .bool false] 56))) := BR.out.alloc BR.out.size _
      have HI2 := Lib.hid (Holds.new W0.drew 56 #[.string ⟨#[]⟩, .slice none 0 0, .slice none 0 0, .slice none 0 0, .slice none 0 0, .slice none 0 0, .slice none 0 0, .slice none 0 0, .slice none 0 0, .slice none 0 0, .slice none 0 0, .bool false, .bool false, .bool false, .bool false, .bool false])
      refine hK.out _ _ ?_ (fun hHeld => ?_)
      · exact HPr.out _ B2.out
      clear hK K
      try simp only [Act.put, List.setIfInBounds_toArray, List.set_cons_zero, List.set_cons_succ]
      refine wpAnyH_ready (rs := [2]) (by kernel_rfl) (by simp) ?_
      refine AllReadyH.cons (o := { dst := some 10, op := Op.call { callee := Callee.value (Operand.func 41), args := #[Operand.tmp 8, Operand.tmp 9], argTypes := #[3, 3] }, type := 9, pos := "ref.go:69", after := #[{ on := 0, ground := Ground.data }, { on := 1, ground := Ground.data }], guard := none }) rfl (fun K hK => ?_) AllReadyH.nil
      go_simp
      go_at_call 41
      with_reducible refine (HK.out _).mono ?_
      rintro e w1 ⟨rfl, bb1⟩
      have B1 := Lib.hid (B2.out.trans (bb1.mono B2.out.size))
      have BB := Lib.hid bb1
      clear bb1
      go_wp2_with fail
      refine hK.out _ _ ?_ (fun hHeld => ?_)
      · exact HPr.out _ B1.out
      clear hK K
      try simp only [Act.put, List.setIfInBounds_toArray, List.set_cons_zero, List.set_cons_succ]
      refine wpAnyH_take (i := 5) (oi := { dst := some 13, op := Op.build 56 #[(0, Operand.tmp 10), (1, Operand.tmp 12)], type := 56, pos := "ref.go:69", after := #[{ on := 2, ground := Ground.data }, { on := 4, ground := Ground.data }], guard := none }) (v := ?_) rfl (by kernel_rfl) (by kernel_rfl) (by kernel_rfl) (fun _ _ _ h => h) (Or.inl ⟨by rfl, ?_⟩) (by assumption) ?_
      rotate_left 1
      · (intro w hSw; (try dsimp only at hSw); go_simp; (try with_reducible rfl))
      try simp only [Act.put, List.setIfInBounds_toArray, List.set_cons_zero, List.set_cons_succ]
      refine wpAnyH_ready (rs := [7]) (by kernel_rfl) (by simp) ?_
      refine AllReadyH.cons rfl (fun K hK => ?_) AllReadyH.nil
      refine step_store_row15 rfl 56 _ _ rfl W0.drew.heap.size #[.string C, .slice c.a0 c.n0 c.c0, .slice c.a1 c.n1 c.c1, .slice c.a2 c.n2 c.c2, .slice c.a3 c.n3 c.c3, .slice c.a4 c.n4 c.c4, .slice c.a5 c.n5 c.c5, .slice c.a6 c.n6 c.c6, .slice c.a7 c.n7 c.c7, .slice none 0 0, .slice none 0 0, .bool false, .bool false, .bool false, .bool false, .bool false] rfl rfl 56 #[.string ⟨#[]⟩, .slice none 0 0, .slice none 0 0, .slice none 0 0, .slice none 0 0, .slice none 0 0, .slice none 0 0, .slice none 0 0, .slice none 0 0, .slice none 0 0, .slice none 0 0, .bool false, .bool false, .bool false, .bool false, .bool false] ((BB.out.block _ HI2.out.lt).trans HI2.out) (by exact sizeInit25) (by rfl) (by simp [Value.oneCell']) ?_
      have B3 : Hid (Below W0.heap.size W0 (w1.setRow W0.drew.heap.size #[.string C, .slice c.a0 c.n0 c.c0, .slice c.a1 c.n1 c.c1, .slice c.a2 c.n2 c.c2, .slice c.a3 c.n3 c.c3, .slice c.a4 c.n4 c.c4, .slice c.a5 c.n5 c.c5, .slice c.a6 c.n6 c.c6, .slice c.a7 c.n7 c.c7, .slice none 0 0, .slice none 0 0, .bool false, .bool false, .bool false, .bool false, .bool false])) := Lib.hid (below_setRow (g := W0.drew.heap.size) B1.out (Nat.le_refl _) #[.string C, .slice c.a0 c.n0 c.c0, .slice c.a1 c.n1 c.c1, .slice c.a2 c.n2 c.c2, .slice c.a3 c.n3 c.c3, .slice c.a4 c.n4 c.c4, .slice c.a5 c.n5 c.c5, .slice c.a6 c.n6 c.c6, .slice c.a7 c.n7 c.c7, .slice none 0 0, .slice none 0 0, .bool false, .bool false, .bool false, .bool false, .bool false])
      refine hK.out _ _ ?_ (fun hHeld => ?_)
      · exact HPr.out _ B3.out
      clear hK K
      try simp only [Act.put, List.setIfInBounds_toArray, List.set_cons_zero, List.set_cons_succ]
      refine wpAnyH_done (by kernel_rfl) ?_ _
      have HG : Hid (Holds (w1.setRow W0.drew.heap.size #[.string C, .slice c.a0 c.n0 c.c0, .slice c.a1 c.n1 c.c1, .slice c.a2 c.n2 c.c2, .slice c.a3 c.n3 c.c3, .slice c.a4 c.n4 c.c4, .slice c.a5 c.n5 c.c5, .slice c.a6 c.n6 c.c6, .slice c.a7 c.n7 c.c7, .slice none 0 0, .slice none 0 0, .bool false, .bool false, .bool false, .bool false, .bool false]) W0.heap.size 56 #[.string C, .slice c.a0 c.n0 c.c0, .slice c.a1 c.n1 c.c1, .slice c.a2 c.n2 c.c2, .slice c.a3 c.n3 c.c3, .slice c.a4 c.n4 c.c4, .slice c.a5 c.n5 c.c5, .slice c.a6 c.n6 c.c6, .slice c.a7 c.n7 c.c7, .slice none 0 0, .slice none 0 0, .bool false, .bool false, .bool false, .bool false, .bool false]) := Lib.hid (setRow_heap w1 W0.heap.size #[.string ⟨#[]⟩, .slice none 0 0, .slice none 0 0, .slice none 0 0, .slice none 0 0, .slice none 0 0, .slice none 0 0, .slice none 0 0, .slice none 0 0, .slice none 0 0, .slice none 0 0, .bool false, .bool false, .bool false, .bool false, .bool false] #[.string C, .slice c.a0 c.n0 c.c0, .slice c.a1 c.n1 c.c1, .slice c.a2 c.n2 c.c2, .slice c.a3 c.n3 c.c3, .slice c.a4 c.n4 c.c4, .slice c.a5 c.n5 c.c5, .slice c.a6 c.n6 c.c6, .slice c.a7 c.n7 c.c7, .slice none 0 0, .slice none 0 0, .bool false, .bool false, .bool false, .bool false, .bool false] 56 (0, 0) ((BB.out.block _ HI2.out.lt).trans HI2.out))
      have hgB : W0.heap.size ≤ W0.heap.size := Nat.le_refl _
      have hgn : w.heap.size + 1 ≠ W0.heap.size := by have := HS0.out; omega
      obtain ⟨W, hW⟩ : ∃ W, Hid (W = (w1.setRow W0.drew.heap.size #[.string C, .slice c.a0 c.n0 c.c0, .slice c.a1 c.n1 c.c1, .slice c.a2 c.n2 c.c2, .slice c.a3 c.n3 c.c3, .slice c.a4 c.n4 c.c4, .slice c.a5 c.n5 c.c5, .slice c.a6 c.n6 c.c6, .slice c.a7 c.n7 c.c7, .slice none 0 0, .slice none 0 0, .bool false, .bool false, .bool false, .bool false, .bool false])) := ⟨_, Lib.hid rfl⟩
      rw [← hW.out] at HG B3 ⊢
      have hI3 := Lib.hid ((B3.out.block _ HI.out.lt).trans HI.out)
      obtain ⟨k0, _, _, _, _, _, _, _, _, k18, k19⟩ := HX.out _ B3.out
      clear hHeld HPr k0 k18 k19
      have y13 : W.cell? ⟨W0.heap.size, 13, none⟩ = some (.bool false) := Holds.cell HG.out 13
      have z13 : W.frozen? ⟨W0.heap.size, 13, none⟩ = false := Holds.frozen HG.out 13
      obtain ⟨k0, _, _, _, _, _, _, _, _, _, _⟩ := HX.out _ B3.out
      have g0 : Hid (Holds (W.setCell ⟨W0.heap.size, 13, none⟩ (.bool false)) W0.heap.size 56 #[.string C, .slice c.a0 c.n0 c.c0, .slice c.a1 c.n1 c.c1, .slice c.a2 c.n2 c.c2, .slice c.a3 c.n3 c.c3, .slice c.a4 c.n4 c.c4, .slice c.a5 c.n5 c.c5, .slice c.a6 c.n6 c.c6, .slice c.a7 c.n7 c.c7, .slice none 0 0, .slice none 0 0, .bool false, .bool false, .bool false, .bool false, .bool false]) := Lib.hid (holds_told25 HG.out (by kernel_rfl))
      have t0 : Hid (Holds (W.setCell ⟨W0.heap.size, 13, none⟩ (.bool false)) (w.heap.size + 1) 56 #[.string ⟨#[]⟩, .slice none 0 0, .slice none 0 0, .slice none 0 0, .slice none 0 0, .slice none 0 0, .slice none 0 0, .slice none 0 0, .slice none 0 0, .slice none 0 0, .slice none 0 0, .bool false, .bool false, .bool false, .bool false, .bool false]) := Lib.hid ((heap_setCell_other _ _ _ _ (by show w.heap.size + 1 ≠ W0.heap.size; exact hgn)).trans hI3.out)
      have B4 := Lib.hid (below_setCell25 B3.out (show W0.heap.size ≤ (⟨W0.heap.size, 13, none⟩ : Addr).block from hgB) (.bool false))
      clear HG hI3 B3
      go_upto_region 6 with fail
      clear y13 z13 k0
      generalize W.setCell ⟨W0.heap.size, 13, none⟩ (.bool false) = W7 at *
      have y11 : W7.cell? ⟨W0.heap.size, 11, none⟩ = some (.bool false) := Holds.cell g0.out 11
      have z11 : W7.frozen? ⟨W0.heap.size, 11, none⟩ = false := Holds.frozen g0.out 11
      obtain ⟨_, _, _, _, _, _, _, _, _, k18, _⟩ := HX.out _ B4.out
      have g1 : Hid (Holds (W7.setCell ⟨W0.heap.size, 11, none⟩ (.bool false)) W0.heap.size 56 #[.string C, .slice c.a0 c.n0 c.c0, .slice c.a1 c.n1 c.c1, .slice c.a2 c.n2 c.c2, .slice c.a3 c.n3 c.c3, .slice c.a4 c.n4 c.c4, .slice c.a5 c.n5 c.c5, .slice c.a6 c.n6 c.c6, .slice c.a7 c.n7 c.c7, .slice none 0 0, .slice none 0 0, .bool false, .bool false, .bool false, .bool false, .bool false]) := Lib.hid (holds_told25 g0.out (by kernel_rfl))
      have t1 : Hid (Holds (W7.setCell ⟨W0.heap.size, 11, none⟩ (.bool false)) (w.heap.size + 1) 56 #[.string ⟨#[]⟩, .slice none 0 0, .slice none 0 0, .slice none 0 0, .slice none 0 0, .slice none 0 0, .slice none 0 0, .slice none 0 0, .slice none 0 0, .slice none 0 0, .slice none 0 0, .bool false, .bool false, .bool false, .bool false, .bool false]) := Lib.hid ((heap_setCell_other _ _ _ _ (by show w.heap.size + 1 ≠ W0.heap.size; exact hgn)).trans t0.out)
      have B5 := Lib.hid (below_setCell25 B4.out (show W0.heap.size ≤ (⟨W0.heap.size, 11, none⟩ : Addr).block from hgB) (.bool false))
      clear g0 t0 B4
      go_upto_region 7 with fail
      clear y11 z11 k18
      generalize W7.setCell ⟨W0.heap.size, 11, none⟩ (.bool false) = W8 at *
      have y15 : W8.cell? ⟨W0.heap.size, 15, none⟩ = some (.bool false) := Holds.cell g1.out 15
      have z15 : W8.frozen? ⟨W0.heap.size, 15, none⟩ = false := Holds.frozen g1.out 15
      obtain ⟨_, _, _, _, _, _, _, _, _, _, k19⟩ := HX.out _ B5.out
      have g2 : Hid (Holds (W8.setCell ⟨W0.heap.size, 15, none⟩ (.bool gu)) W0.heap.size 56 #[.string C, .slice c.a0 c.n0 c.c0, .slice c.a1 c.n1 c.c1, .slice c.a2 c.n2 c.c2, .slice c.a3 c.n3 c.c3, .slice c.a4 c.n4 c.c4, .slice c.a5 c.n5 c.c5, .slice c.a6 c.n6 c.c6, .slice c.a7 c.n7 c.c7, .slice none 0 0, .slice none 0 0, .bool false, .bool false, .bool false, .bool false, .bool gu]) := Lib.hid (holds_told25 g1.out (by kernel_rfl))
      have t2 : Hid (Holds (W8.setCell ⟨W0.heap.size, 15, none⟩ (.bool gu)) (w.heap.size + 1) 56 #[.string ⟨#[]⟩, .slice none 0 0, .slice none 0 0, .slice none 0 0, .slice none 0 0, .slice none 0 0, .slice none 0 0, .slice none 0 0, .slice none 0 0, .slice none 0 0, .slice none 0 0, .bool false, .bool false, .bool false, .bool false, .bool false]) := Lib.hid ((heap_setCell_other _ _ _ _ (by show w.heap.size + 1 ≠ W0.heap.size; exact hgn)).trans t1.out)
      have B6 := Lib.hid (below_setCell25 B5.out (show W0.heap.size ≤ (⟨W0.heap.size, 15, none⟩ : Addr).block from hgB) (.bool gu))
      go_wp2_with (first
        | (refine wpList_load_row rfl 56 _ rfl W0.heap.size rfl 56 #[.string C, .slice c.a0 c.n0 c.c0, .slice c.a1 c.n1 c.c1, .slice c.a2 c.n2 c.c2, .slice c.a3 c.n3 c.c3, .slice c.a4 c.n4 c.c4, .slice c.a5 c.n5 c.c5, .slice c.a6 c.n6 c.c6, .slice c.a7 c.n7 c.c7, .slice none 0 0, .slice none 0 0, .bool false, .bool false, .bool false, .bool false, .bool gu] (0, 0) _ (by exact g2.out) Tryd.underlying56 rfl (by exact sizeInit25) ?_)
        | (refine wpList_store_row rfl 56 _ _ rfl (w.heap.size + 1) #[.string C, .slice c.a0 c.n0 c.c0, .slice c.a1 c.n1 c.c1, .slice c.a2 c.n2 c.c2, .slice c.a3 c.n3 c.c3, .slice c.a4 c.n4 c.c4, .slice c.a5 c.n5 c.c5, .slice c.a6 c.n6 c.c6, .slice c.a7 c.n7 c.c7, .slice none 0 0, .slice none 0 0, .bool false, .bool false, .bool false, .bool false, .bool gu] rfl rfl 56 #[.string ⟨#[]⟩, .slice none 0 0, .slice none 0 0, .slice none 0 0, .slice none 0 0, .slice none 0 0, .slice none 0 0, .slice none 0 0, .slice none 0 0, .slice none 0 0, .slice none 0 0, .bool false, .bool false, .bool false, .bool false, .bool false] (by exact t2.out) (by exact sizeInit25) (by rfl) (by simp [Value.oneCell']) ?_)
        | fail)
      refine bodyPost_ret (results_cell_row rfl _ _ (w.heap.size + 1) _ #[.string C, .slice c.a0 c.n0 c.c0, .slice c.a1 c.n1 c.c1, .slice c.a2 c.n2 c.c2, .slice c.a3 c.n3 c.c3, .slice c.a4 c.n4 c.c4, .slice c.a5 c.n5 c.c5, .slice c.a6 c.n6 c.c6, .slice c.a7 c.n7 c.c7, .slice none 0 0, .slice none 0 0, .bool false, .bool false, .bool false, .bool false, .bool gu] (0, 0) _ rfl (setRow_heap _ (w.heap.size + 1) #[.string ⟨#[]⟩, .slice none 0 0, .slice none 0 0, .slice none 0 0, .slice none 0 0, .slice none 0 0, .slice none 0 0, .slice none 0 0, .slice none 0 0, .slice none 0 0, .slice none 0 0, .bool false, .bool false, .bool false, .bool false, .bool false] #[.string C, .slice c.a0 c.n0 c.c0, .slice c.a1 c.n1 c.c1, .slice c.a2 c.n2 c.c2, .slice c.a3 c.n3 c.c3, .slice c.a4 c.n4 c.c4, .slice c.a5 c.n5 c.c5, .slice c.a6 c.n6 c.c6, .slice c.a7 c.n7 c.c7, .slice none 0 0, .slice none 0 0, .bool false, .bool false, .bool false, .bool false, .bool gu] 56 (0, 0) (by exact t2.out)) Tryd.underlying56 rfl (by exact sizeInit25)) rfl ?_
      exact ⟨rfl, below_setRow (HB.out.trans (B6.out.mono HB.out.size)) (by omega) _⟩
  · refine wp_region_held_drew (S := fun w' => w'.cell? ⟨w.heap.size, 3, none⟩ = some (.slice c.a0 c.n0 c.c0) ∧ w'.cell? ⟨w.heap.size, 4, none⟩ = some (.slice c.a1 c.n1 c.c1) ∧ w'.cell? ⟨w.heap.size, 5, none⟩ = some (.slice c.a2 c.n2 c.c2) ∧ w'.cell? ⟨w.heap.size, 6, none⟩ = some (.slice c.a3 c.n3 c.c3) ∧ w'.cell? ⟨w.heap.size, 7, none⟩ = some (.slice c.a4 c.n4 c.c4) ∧ w'.cell? ⟨w.heap.size, 8, none⟩ = some (.slice c.a5 c.n5 c.c5) ∧ w'.cell? ⟨w.heap.size, 9, none⟩ = some (.slice c.a6 c.n6 c.c6) ∧ w'.cell? ⟨w.heap.size, 10, none⟩ = some (.slice c.a7 c.n7 c.c7)) (by kernel_rfl) ?_ (fun hHeld => ?_)
    · exact HPr.out _ BR.out
    refine wpAnyH_take (i := 0) (oi := { dst := some 8, op := Op.move (Operand.tmp 1), type := 3, pos := "ref.go:69", after := #[], guard := none }) (v := ?_) rfl (by kernel_rfl) (by kernel_rfl) (by kernel_rfl) (fun _ _ _ h => h) (Or.inl ⟨by rfl, ?_⟩) (by assumption) ?_
    rotate_left 1
    · (intro w hSw; (try dsimp only at hSw); go_simp; (try with_reducible rfl))
    try simp only [Act.put, List.setIfInBounds_toArray, List.set_cons_zero, List.set_cons_succ]
    refine wpAnyH_take (i := 1) (oi := { dst := some 9, op := Op.move (Operand.tmp 2), type := 3, pos := "ref.go:69", after := #[], guard := none }) (v := ?_) rfl (by kernel_rfl) (by kernel_rfl) (by kernel_rfl) (fun _ _ _ h => h) (Or.inl ⟨by rfl, ?_⟩) (by assumption) ?_
    rotate_left 1
    · (intro w hSw; (try dsimp only at hSw); go_simp; (try with_reducible rfl))
    try simp only [Act.put, List.setIfInBounds_toArray, List.set_cons_zero, List.set_cons_succ]
    refine wpAnyH_take (i := 3) (oi := { dst := some 11, op := Op.fieldAddr 51 (Operand.tmp 3) 3, type := 0, pos := "ref.go:69", after := #[], guard := none }) (v := ?_) rfl (by kernel_rfl) (by kernel_rfl) (by kernel_rfl) (fun _ _ _ h => h) (Or.inl ⟨by rfl, ?_⟩) (by assumption) ?_
    rotate_left 1
    · (intro w hSw; (try dsimp only at hSw); go_simp; (try with_reducible rfl))
    try simp only [Act.put, List.setIfInBounds_toArray, List.set_cons_zero, List.set_cons_succ]
    refine wpAnyH_take (i := 4) (oi := { dst := some 12, op := Op.load 46 (Operand.tmp 11), type := 46, pos := "ref.go:69", after := #[{ on := 3, ground := Ground.data }], guard := none }) (v := ?_) rfl (by kernel_rfl) (by kernel_rfl) (by kernel_rfl) (fun _ _ _ h => h) (Or.inl ⟨by rfl, ?_⟩) (by assumption) ?_
    rotate_left 1
    · (intro w hSw; (try dsimp only at hSw); go_simp; (try with_reducible rfl))
    try simp only [Act.put, List.setIfInBounds_toArray, List.set_cons_zero, List.set_cons_succ]
    refine wpAnyH_ready (rs := [2, 6]) (by kernel_rfl) (by simp) ?_
    refine AllReadyH.cons (o := { dst := some 10, op := Op.call { callee := Callee.value (Operand.func 41), args := #[Operand.tmp 8, Operand.tmp 9], argTypes := #[3, 3] }, type := 9, pos := "ref.go:69", after := #[{ on := 0, ground := Ground.data }, { on := 1, ground := Ground.data }], guard := none }) rfl (fun K hK => ?_) (AllReadyH.cons (o := { dst := some 7, op := Op.alloc 56, type := 0, pos := "ref.go:69", after := #[], guard := none }) rfl (fun K hK => ?_) AllReadyH.nil)
    · go_simp
      go_at_call 41
      with_reducible refine (HK.out _).mono ?_
      rintro e w1 ⟨rfl, bb1⟩
      have B1 := Lib.hid (BR.out.trans (bb1.mono BR.out.size))
      have BB := Lib.hid bb1
      clear bb1
      go_wp2_with fail
      refine hK.out _ _ ?_ (fun hHeld => ?_)
      · exact HPr.out _ B1.out
      clear hK K
      try simp only [Act.put, List.setIfInBounds_toArray, List.set_cons_zero, List.set_cons_succ]
      refine wpAnyH_take (i := 5) (oi := { dst := some 13, op := Op.build 56 #[(0, Operand.tmp 10), (1, Operand.tmp 12)], type := 56, pos := "ref.go:69", after := #[{ on := 2, ground := Ground.data }, { on := 4, ground := Ground.data }], guard := none }) (v := ?_) rfl (by kernel_rfl) (by kernel_rfl) (by kernel_rfl) (fun _ _ _ h => h) (Or.inl ⟨by rfl, ?_⟩) (by assumption) ?_
      rotate_left 1
      · (intro w hSw; (try dsimp only at hSw); go_simp; (try with_reducible rfl))
      try simp only [Act.put, List.setIfInBounds_toArray, List.set_cons_zero, List.set_cons_succ]
      refine wpAnyH_ready (rs := [6]) (by kernel_rfl) (by simp) ?_
      refine AllReadyH.cons (o := { dst := some 7, op := Op.alloc 56, type := 0, pos := "ref.go:69", after := #[], guard := none }) rfl (fun K hK => ?_) AllReadyH.nil
      go_simp
      have B2 : Hid (Below W0.heap.size W0 (w1.alloc (.cells #[.string ⟨#[]⟩, .slice none 0 0, .slice none 0 0, .slice none 0 0, .slice none 0 0, .slice none 0 0, .slice none 0 0, .slice none 0 0, .slice none 0 0, .slice none 0 0, .slice none 0 0, .bool false, .bool false, .bool false, .bool false, .bool false] 56))) := B1.out.alloc B1.out.size _
      refine hK.out _ _ ?_ (fun hHeld => ?_)
      · exact HPr.out _ B2.out
      clear hK K
      try simp only [Act.put, List.setIfInBounds_toArray, List.set_cons_zero, List.set_cons_succ]
      refine wpAnyH_ready (rs := [7]) (by kernel_rfl) (by simp) ?_
      refine AllReadyH.cons rfl (fun K hK => ?_) AllReadyH.nil
      refine step_store_row15 rfl 56 _ _ rfl w1.heap.size #[.string C, .slice c.a0 c.n0 c.c0, .slice c.a1 c.n1 c.c1, .slice c.a2 c.n2 c.c2, .slice c.a3 c.n3 c.c3, .slice c.a4 c.n4 c.c4, .slice c.a5 c.n5 c.c5, .slice c.a6 c.n6 c.c6, .slice c.a7 c.n7 c.c7, .slice none 0 0, .slice none 0 0, .bool false, .bool false, .bool false, .bool false, .bool false] rfl rfl 56 #[.string ⟨#[]⟩, .slice none 0 0, .slice none 0 0, .slice none 0 0, .slice none 0 0, .slice none 0 0, .slice none 0 0, .slice none 0 0, .slice none 0 0, .slice none 0 0, .slice none 0 0, .bool false, .bool false, .bool false, .bool false, .bool false] (new_row w1 _ _ rfl) (by exact sizeInit25) (by rfl) (by simp [Value.oneCell']) ?_
      rw [alloc_setRow w1 _ _ _ rfl]
      have B3 : Hid (Below W0.heap.size W0 (w1.alloc (.cells #[.string C, .slice c.a0 c.n0 c.c0, .slice c.a1 c.n1 c.c1, .slice c.a2 c.n2 c.c2, .slice c.a3 c.n3 c.c3, .slice c.a4 c.n4 c.c4, .slice c.a5 c.n5 c.c5, .slice c.a6 c.n6 c.c6, .slice c.a7 c.n7 c.c7, .slice none 0 0, .slice none 0 0, .bool false, .bool false, .bool false, .bool false, .bool false] 56))) := B1.out.alloc B1.out.size _
      refine hK.out _ _ ?_ (fun hHeld => ?_)
      · exact HPr.out _ B3.out
      clear hK K
      try simp only [Act.put, List.setIfInBounds_toArray, List.set_cons_zero, List.set_cons_succ]
      refine wpAnyH_done (by kernel_rfl) ?_ _
      have HG : Hid (Holds (w1.alloc (.cells #[.string C, .slice c.a0 c.n0 c.c0, .slice c.a1 c.n1 c.c1, .slice c.a2 c.n2 c.c2, .slice c.a3 c.n3 c.c3, .slice c.a4 c.n4 c.c4, .slice c.a5 c.n5 c.c5, .slice c.a6 c.n6 c.c6, .slice c.a7 c.n7 c.c7, .slice none 0 0, .slice none 0 0, .bool false, .bool false, .bool false, .bool false, .bool false] 56)) w1.heap.size 56 #[.string C, .slice c.a0 c.n0 c.c0, .slice c.a1 c.n1 c.c1, .slice c.a2 c.n2 c.c2, .slice c.a3 c.n3 c.c3, .slice c.a4 c.n4 c.c4, .slice c.a5 c.n5 c.c5, .slice c.a6 c.n6 c.c6, .slice c.a7 c.n7 c.c7, .slice none 0 0, .slice none 0 0, .bool false, .bool false, .bool false, .bool false, .bool false]) := Lib.hid (Holds.new w1 56 #[.string C, .slice c.a0 c.n0 c.c0, .slice c.a1 c.n1 c.c1, .slice c.a2 c.n2 c.c2, .slice c.a3 c.n3 c.c3, .slice c.a4 c.n4 c.c4, .slice c.a5 c.n5 c.c5, .slice c.a6 c.n6 c.c6, .slice c.a7 c.n7 c.c7, .slice none 0 0, .slice none 0 0, .bool false, .bool false, .bool false, .bool false, .bool false])
      have hgB : W0.heap.size ≤ w1.heap.size := B1.out.size
      have hgn : w.heap.size + 1 ≠ w1.heap.size := by have := HS0.out; omega
      obtain ⟨W, hW⟩ : ∃ W, Hid (W = (w1.alloc (.cells #[.string C, .slice c.a0 c.n0 c.c0, .slice c.a1 c.n1 c.c1, .slice c.a2 c.n2 c.c2, .slice c.a3 c.n3 c.c3, .slice c.a4 c.n4 c.c4, .slice c.a5 c.n5 c.c5, .slice c.a6 c.n6 c.c6, .slice c.a7 c.n7 c.c7, .slice none 0 0, .slice none 0 0, .bool false, .bool false, .bool false, .bool false, .bool false] 56))) := ⟨_, Lib.hid rfl⟩
      rw [← hW.out] at HG B3 ⊢
      have hI3 := Lib.hid ((B3.out.block _ HI.out.lt).trans HI.out)
      obtain ⟨k0, _, _, _, _, _, _, _, _, k18, k19⟩ := HX.out _ B3.out
      clear hHeld HPr k0 k18 k19
      have y13 : W.cell? ⟨w1.heap.size, 13, none⟩ = some (.bool false) := Holds.cell HG.out 13
      have z13 : W.frozen? ⟨w1.heap.size, 13, none⟩ = false := Holds.frozen HG.out 13
      obtain ⟨k0, _, _, _, _, _, _, _, _, _, _⟩ := HX.out _ B3.out
      have g0 : Hid (Holds (W.setCell ⟨w1.heap.size, 13, none⟩ (.bool true)) w1.heap.size 56 #[.string C, .slice c.a0 c.n0 c.c0, .slice c.a1 c.n1 c.c1, .slice c.a2 c.n2 c.c2, .slice c.a3 c.n3 c.c3, .slice c.a4 c.n4 c.c4, .slice c.a5 c.n5 c.c5, .slice c.a6 c.n6 c.c6, .slice c.a7 c.n7 c.c7, .slice none 0 0, .slice none 0 0, .bool false, .bool false, .bool true, .bool false, .bool false]) := Lib.hid (holds_told25 HG.out (by kernel_rfl))
      have t0 : Hid (Holds (W.setCell ⟨w1.heap.size, 13, none⟩ (.bool true)) (w.heap.size + 1) 56 #[.string ⟨#[]⟩, .slice none 0 0, .slice none 0 0, .slice none 0 0, .slice none 0 0, .slice none 0 0, .slice none 0 0, .slice none 0 0, .slice none 0 0, .slice none 0 0, .slice none 0 0, .bool false, .bool false, .bool false, .bool false, .bool false]) := Lib.hid ((heap_setCell_other _ _ _ _ (by show w.heap.size + 1 ≠ w1.heap.size; exact hgn)).trans hI3.out)
      have B4 := Lib.hid (below_setCell25 B3.out (show W0.heap.size ≤ (⟨w1.heap.size, 13, none⟩ : Addr).block from hgB) (.bool true))
      clear HG hI3 B3
      go_upto_region 6 with fail
      clear y13 z13 k0
      generalize W.setCell ⟨w1.heap.size, 13, none⟩ (.bool true) = W7 at *
      have y11 : W7.cell? ⟨w1.heap.size, 11, none⟩ = some (.bool false) := Holds.cell g0.out 11
      have z11 : W7.frozen? ⟨w1.heap.size, 11, none⟩ = false := Holds.frozen g0.out 11
      obtain ⟨_, _, _, _, _, _, _, _, _, k18, _⟩ := HX.out _ B4.out
      have g1 : Hid (Holds (W7.setCell ⟨w1.heap.size, 11, none⟩ (.bool false)) w1.heap.size 56 #[.string C, .slice c.a0 c.n0 c.c0, .slice c.a1 c.n1 c.c1, .slice c.a2 c.n2 c.c2, .slice c.a3 c.n3 c.c3, .slice c.a4 c.n4 c.c4, .slice c.a5 c.n5 c.c5, .slice c.a6 c.n6 c.c6, .slice c.a7 c.n7 c.c7, .slice none 0 0, .slice none 0 0, .bool false, .bool false, .bool true, .bool false, .bool false]) := Lib.hid (holds_told25 g0.out (by kernel_rfl))
      have t1 : Hid (Holds (W7.setCell ⟨w1.heap.size, 11, none⟩ (.bool false)) (w.heap.size + 1) 56 #[.string ⟨#[]⟩, .slice none 0 0, .slice none 0 0, .slice none 0 0, .slice none 0 0, .slice none 0 0, .slice none 0 0, .slice none 0 0, .slice none 0 0, .slice none 0 0, .slice none 0 0, .bool false, .bool false, .bool false, .bool false, .bool false]) := Lib.hid ((heap_setCell_other _ _ _ _ (by show w.heap.size + 1 ≠ w1.heap.size; exact hgn)).trans t0.out)
      have B5 := Lib.hid (below_setCell25 B4.out (show W0.heap.size ≤ (⟨w1.heap.size, 11, none⟩ : Addr).block from hgB) (.bool false))
      clear g0 t0 B4
      go_upto_region 7 with fail
      clear y11 z11 k18
      generalize W7.setCell ⟨w1.heap.size, 11, none⟩ (.bool false) = W8 at *
      have y15 : W8.cell? ⟨w1.heap.size, 15, none⟩ = some (.bool false) := Holds.cell g1.out 15
      have z15 : W8.frozen? ⟨w1.heap.size, 15, none⟩ = false := Holds.frozen g1.out 15
      obtain ⟨_, _, _, _, _, _, _, _, _, _, k19⟩ := HX.out _ B5.out
      have g2 : Hid (Holds (W8.setCell ⟨w1.heap.size, 15, none⟩ (.bool gu)) w1.heap.size 56 #[.string C, .slice c.a0 c.n0 c.c0, .slice c.a1 c.n1 c.c1, .slice c.a2 c.n2 c.c2, .slice c.a3 c.n3 c.c3, .slice c.a4 c.n4 c.c4, .slice c.a5 c.n5 c.c5, .slice c.a6 c.n6 c.c6, .slice c.a7 c.n7 c.c7, .slice none 0 0, .slice none 0 0, .bool false, .bool false, .bool true, .bool false, .bool gu]) := Lib.hid (holds_told25 g1.out (by kernel_rfl))
      have t2 : Hid (Holds (W8.setCell ⟨w1.heap.size, 15, none⟩ (.bool gu)) (w.heap.size + 1) 56 #[.string ⟨#[]⟩, .slice none 0 0, .slice none 0 0, .slice none 0 0, .slice none 0 0, .slice none 0 0, .slice none 0 0, .slice none 0 0, .slice none 0 0, .slice none 0 0, .slice none 0 0, .bool false, .bool false, .bool false, .bool false, .bool false]) := Lib.hid ((heap_setCell_other _ _ _ _ (by show w.heap.size + 1 ≠ w1.heap.size; exact hgn)).trans t1.out)
      have B6 := Lib.hid (below_setCell25 B5.out (show W0.heap.size ≤ (⟨w1.heap.size, 15, none⟩ : Addr).block from hgB) (.bool gu))
      go_wp2_with (first
        | (refine wpList_load_row rfl 56 _ rfl w1.heap.size rfl 56 #[.string C, .slice c.a0 c.n0 c.c0, .slice c.a1 c.n1 c.c1, .slice c.a2 c.n2 c.c2, .slice c.a3 c.n3 c.c3, .slice c.a4 c.n4 c.c4, .slice c.a5 c.n5 c.c5, .slice c.a6 c.n6 c.c6, .slice c.a7 c.n7 c.c7, .slice none 0 0, .slice none 0 0, .bool false, .bool false, .bool true, .bool false, .bool gu] (0, 0) _ (by exact g2.out) Tryd.underlying56 rfl (by exact sizeInit25) ?_)
        | (refine wpList_store_row rfl 56 _ _ rfl (w.heap.size + 1) #[.string C, .slice c.a0 c.n0 c.c0, .slice c.a1 c.n1 c.c1, .slice c.a2 c.n2 c.c2, .slice c.a3 c.n3 c.c3, .slice c.a4 c.n4 c.c4, .slice c.a5 c.n5 c.c5, .slice c.a6 c.n6 c.c6, .slice c.a7 c.n7 c.c7, .slice none 0 0, .slice none 0 0, .bool false, .bool false, .bool true, .bool false, .bool gu] rfl rfl 56 #[.string ⟨#[]⟩, .slice none 0 0, .slice none 0 0, .slice none 0 0, .slice none 0 0, .slice none 0 0, .slice none 0 0, .slice none 0 0, .slice none 0 0, .slice none 0 0, .slice none 0 0, .bool false, .bool false, .bool false, .bool false, .bool false] (by exact t2.out) (by exact sizeInit25) (by rfl) (by simp [Value.oneCell']) ?_)
        | fail)
      refine bodyPost_ret (results_cell_row rfl _ _ (w.heap.size + 1) _ #[.string C, .slice c.a0 c.n0 c.c0, .slice c.a1 c.n1 c.c1, .slice c.a2 c.n2 c.c2, .slice c.a3 c.n3 c.c3, .slice c.a4 c.n4 c.c4, .slice c.a5 c.n5 c.c5, .slice c.a6 c.n6 c.c6, .slice c.a7 c.n7 c.c7, .slice none 0 0, .slice none 0 0, .bool false, .bool false, .bool true, .bool false, .bool gu] (0, 0) _ rfl (setRow_heap _ (w.heap.size + 1) #[.string ⟨#[]⟩, .slice none 0 0, .slice none 0 0, .slice none 0 0, .slice none 0 0, .slice none 0 0, .slice none 0 0, .slice none 0 0, .slice none 0 0, .slice none 0 0, .slice none 0 0, .bool false, .bool false, .bool false, .bool false, .bool false] #[.string C, .slice c.a0 c.n0 c.c0, .slice c.a1 c.n1 c.c1, .slice c.a2 c.n2 c.c2, .slice c.a3 c.n3 c.c3, .slice c.a4 c.n4 c.c4, .slice c.a5 c.n5 c.c5, .slice c.a6 c.n6 c.c6, .slice c.a7 c.n7 c.c7, .slice none 0 0, .slice none 0 0, .bool false, .bool false, .bool true, .bool false, .bool gu] 56 (0, 0) (by exact t2.out)) Tryd.underlying56 rfl (by exact sizeInit25)) rfl ?_
      exact ⟨rfl, below_setRow (HB.out.trans (B6.out.mono HB.out.size)) (by omega) _⟩
    · go_simp
      have B2 : Hid (Below W0.heap.size W0 (W0.drew.alloc (.cells #[.string ⟨#[]⟩, .slice none 0 0, .slice none 0 0, .slice none 0 0, .slice none 0 0, .slice none 0 0, .slice none 0 0, .slice none 0 0, .slice none 0 0, .slice none 0 0, .slice none 0 0, .bool false, .bool false, .bool false, .bool false, .bool false] 56))) := BR.out.alloc BR.out.size _
      have HI2 := Lib.hid (Holds.new W0.drew 56 #[.string ⟨#[]⟩, .slice none 0 0, .slice none 0 0, .slice none 0 0, .slice none 0 0, .slice none 0 0, .slice none 0 0, .slice none 0 0, .slice none 0 0, .slice none 0 0, .slice none 0 0, .bool false, .bool false, .bool false, .bool false, .bool false])
      refine hK.out _ _ ?_ (fun hHeld => ?_)
      · exact HPr.out _ B2.out
      clear hK K
      try simp only [Act.put, List.setIfInBounds_toArray, List.set_cons_zero, List.set_cons_succ]
      refine wpAnyH_ready (rs := [2]) (by kernel_rfl) (by simp) ?_
      refine AllReadyH.cons (o := { dst := some 10, op := Op.call { callee := Callee.value (Operand.func 41), args := #[Operand.tmp 8, Operand.tmp 9], argTypes := #[3, 3] }, type := 9, pos := "ref.go:69", after := #[{ on := 0, ground := Ground.data }, { on := 1, ground := Ground.data }], guard := none }) rfl (fun K hK => ?_) AllReadyH.nil
      go_simp
      go_at_call 41
      with_reducible refine (HK.out _).mono ?_
      rintro e w1 ⟨rfl, bb1⟩
      have B1 := Lib.hid (B2.out.trans (bb1.mono B2.out.size))
      have BB := Lib.hid bb1
      clear bb1
      go_wp2_with fail
      refine hK.out _ _ ?_ (fun hHeld => ?_)
      · exact HPr.out _ B1.out
      clear hK K
      try simp only [Act.put, List.setIfInBounds_toArray, List.set_cons_zero, List.set_cons_succ]
      refine wpAnyH_take (i := 5) (oi := { dst := some 13, op := Op.build 56 #[(0, Operand.tmp 10), (1, Operand.tmp 12)], type := 56, pos := "ref.go:69", after := #[{ on := 2, ground := Ground.data }, { on := 4, ground := Ground.data }], guard := none }) (v := ?_) rfl (by kernel_rfl) (by kernel_rfl) (by kernel_rfl) (fun _ _ _ h => h) (Or.inl ⟨by rfl, ?_⟩) (by assumption) ?_
      rotate_left 1
      · (intro w hSw; (try dsimp only at hSw); go_simp; (try with_reducible rfl))
      try simp only [Act.put, List.setIfInBounds_toArray, List.set_cons_zero, List.set_cons_succ]
      refine wpAnyH_ready (rs := [7]) (by kernel_rfl) (by simp) ?_
      refine AllReadyH.cons rfl (fun K hK => ?_) AllReadyH.nil
      refine step_store_row15 rfl 56 _ _ rfl W0.drew.heap.size #[.string C, .slice c.a0 c.n0 c.c0, .slice c.a1 c.n1 c.c1, .slice c.a2 c.n2 c.c2, .slice c.a3 c.n3 c.c3, .slice c.a4 c.n4 c.c4, .slice c.a5 c.n5 c.c5, .slice c.a6 c.n6 c.c6, .slice c.a7 c.n7 c.c7, .slice none 0 0, .slice none 0 0, .bool false, .bool false, .bool false, .bool false, .bool false] rfl rfl 56 #[.string ⟨#[]⟩, .slice none 0 0, .slice none 0 0, .slice none 0 0, .slice none 0 0, .slice none 0 0, .slice none 0 0, .slice none 0 0, .slice none 0 0, .slice none 0 0, .slice none 0 0, .bool false, .bool false, .bool false, .bool false, .bool false] ((BB.out.block _ HI2.out.lt).trans HI2.out) (by exact sizeInit25) (by rfl) (by simp [Value.oneCell']) ?_
      have B3 : Hid (Below W0.heap.size W0 (w1.setRow W0.drew.heap.size #[.string C, .slice c.a0 c.n0 c.c0, .slice c.a1 c.n1 c.c1, .slice c.a2 c.n2 c.c2, .slice c.a3 c.n3 c.c3, .slice c.a4 c.n4 c.c4, .slice c.a5 c.n5 c.c5, .slice c.a6 c.n6 c.c6, .slice c.a7 c.n7 c.c7, .slice none 0 0, .slice none 0 0, .bool false, .bool false, .bool false, .bool false, .bool false])) := Lib.hid (below_setRow (g := W0.drew.heap.size) B1.out (Nat.le_refl _) #[.string C, .slice c.a0 c.n0 c.c0, .slice c.a1 c.n1 c.c1, .slice c.a2 c.n2 c.c2, .slice c.a3 c.n3 c.c3, .slice c.a4 c.n4 c.c4, .slice c.a5 c.n5 c.c5, .slice c.a6 c.n6 c.c6, .slice c.a7 c.n7 c.c7, .slice none 0 0, .slice none 0 0, .bool false, .bool false, .bool false, .bool false, .bool false])
      refine hK.out _ _ ?_ (fun hHeld => ?_)
      · exact HPr.out _ B3.out
      clear hK K
      try simp only [Act.put, List.setIfInBounds_toArray, List.set_cons_zero, List.set_cons_succ]
      refine wpAnyH_done (by kernel_rfl) ?_ _
      have HG : Hid (Holds (w1.setRow W0.drew.heap.size #[.string C, .slice c.a0 c.n0 c.c0, .slice c.a1 c.n1 c.c1, .slice c.a2 c.n2 c.c2, .slice c.a3 c.n3 c.c3, .slice c.a4 c.n4 c.c4, .slice c.a5 c.n5 c.c5, .slice c.a6 c.n6 c.c6, .slice c.a7 c.n7 c.c7, .slice none 0 0, .slice none 0 0, .bool false, .bool false, .bool false, .bool false, .bool false]) W0.heap.size 56 #[.string C, .slice c.a0 c.n0 c.c0, .slice c.a1 c.n1 c.c1, .slice c.a2 c.n2 c.c2, .slice c.a3 c.n3 c.c3, .slice c.a4 c.n4 c.c4, .slice c.a5 c.n5 c.c5, .slice c.a6 c.n6 c.c6, .slice c.a7 c.n7 c.c7, .slice none 0 0, .slice none 0 0, .bool false, .bool false, .bool false, .bool false, .bool false]) := Lib.hid (setRow_heap w1 W0.heap.size #[.string ⟨#[]⟩, .slice none 0 0, .slice none 0 0, .slice none 0 0, .slice none 0 0, .slice none 0 0, .slice none 0 0, .slice none 0 0, .slice none 0 0, .slice none 0 0, .slice none 0 0, .bool false, .bool false, .bool false, .bool false, .bool false] #[.string C, .slice c.a0 c.n0 c.c0, .slice c.a1 c.n1 c.c1, .slice c.a2 c.n2 c.c2, .slice c.a3 c.n3 c.c3, .slice c.a4 c.n4 c.c4, .slice c.a5 c.n5 c.c5, .slice c.a6 c.n6 c.c6, .slice c.a7 c.n7 c.c7, .slice none 0 0, .slice none 0 0, .bool false, .bool false, .bool false, .bool false, .bool false] 56 (0, 0) ((BB.out.block _ HI2.out.lt).trans HI2.out))
      have hgB : W0.heap.size ≤ W0.heap.size := Nat.le_refl _
      have hgn : w.heap.size + 1 ≠ W0.heap.size := by have := HS0.out; omega
      obtain ⟨W, hW⟩ : ∃ W, Hid (W = (w1.setRow W0.drew.heap.size #[.string C, .slice c.a0 c.n0 c.c0, .slice c.a1 c.n1 c.c1, .slice c.a2 c.n2 c.c2, .slice c.a3 c.n3 c.c3, .slice c.a4 c.n4 c.c4, .slice c.a5 c.n5 c.c5, .slice c.a6 c.n6 c.c6, .slice c.a7 c.n7 c.c7, .slice none 0 0, .slice none 0 0, .bool false, .bool false, .bool false, .bool false, .bool false])) := ⟨_, Lib.hid rfl⟩
      rw [← hW.out] at HG B3 ⊢
      have hI3 := Lib.hid ((B3.out.block _ HI.out.lt).trans HI.out)
      obtain ⟨k0, _, _, _, _, _, _, _, _, k18, k19⟩ := HX.out _ B3.out
      clear hHeld HPr k0 k18 k19
      have y13 : W.cell? ⟨W0.heap.size, 13, none⟩ = some (.bool false) := Holds.cell HG.out 13
      have z13 : W.frozen? ⟨W0.heap.size, 13, none⟩ = false := Holds.frozen HG.out 13
      obtain ⟨k0, _, _, _, _, _, _, _, _, _, _⟩ := HX.out _ B3.out
      have g0 : Hid (Holds (W.setCell ⟨W0.heap.size, 13, none⟩ (.bool true)) W0.heap.size 56 #[.string C, .slice c.a0 c.n0 c.c0, .slice c.a1 c.n1 c.c1, .slice c.a2 c.n2 c.c2, .slice c.a3 c.n3 c.c3, .slice c.a4 c.n4 c.c4, .slice c.a5 c.n5 c.c5, .slice c.a6 c.n6 c.c6, .slice c.a7 c.n7 c.c7, .slice none 0 0, .slice none 0 0, .bool false, .bool false, .bool true, .bool false, .bool false]) := Lib.hid (holds_told25 HG.out (by kernel_rfl))
      have t0 : Hid (Holds (W.setCell ⟨W0.heap.size, 13, none⟩ (.bool true)) (w.heap.size + 1) 56 #[.string ⟨#[]⟩, .slice none 0 0, .slice none 0 0, .slice none 0 0, .slice none 0 0, .slice none 0 0, .slice none 0 0, .slice none 0 0, .slice none 0 0, .slice none 0 0, .slice none 0 0, .bool false, .bool false, .bool false, .bool false, .bool false]) := Lib.hid ((heap_setCell_other _ _ _ _ (by show w.heap.size + 1 ≠ W0.heap.size; exact hgn)).trans hI3.out)
      have B4 := Lib.hid (below_setCell25 B3.out (show W0.heap.size ≤ (⟨W0.heap.size, 13, none⟩ : Addr).block from hgB) (.bool true))
      clear HG hI3 B3
      go_upto_region 6 with fail
      clear y13 z13 k0
      generalize W.setCell ⟨W0.heap.size, 13, none⟩ (.bool true) = W7 at *
      have y11 : W7.cell? ⟨W0.heap.size, 11, none⟩ = some (.bool false) := Holds.cell g0.out 11
      have z11 : W7.frozen? ⟨W0.heap.size, 11, none⟩ = false := Holds.frozen g0.out 11
      obtain ⟨_, _, _, _, _, _, _, _, _, k18, _⟩ := HX.out _ B4.out
      have g1 : Hid (Holds (W7.setCell ⟨W0.heap.size, 11, none⟩ (.bool false)) W0.heap.size 56 #[.string C, .slice c.a0 c.n0 c.c0, .slice c.a1 c.n1 c.c1, .slice c.a2 c.n2 c.c2, .slice c.a3 c.n3 c.c3, .slice c.a4 c.n4 c.c4, .slice c.a5 c.n5 c.c5, .slice c.a6 c.n6 c.c6, .slice c.a7 c.n7 c.c7, .slice none 0 0, .slice none 0 0, .bool false, .bool false, .bool true, .bool false, .bool false]) := Lib.hid (holds_told25 g0.out (by kernel_rfl))
      have t1 : Hid (Holds (W7.setCell ⟨W0.heap.size, 11, none⟩ (.bool false)) (w.heap.size + 1) 56 #[.string ⟨#[]⟩, .slice none 0 0, .slice none 0 0, .slice none 0 0, .slice none 0 0, .slice none 0 0, .slice none 0 0, .slice none 0 0, .slice none 0 0, .slice none 0 0, .slice none 0 0, .bool false, .bool false, .bool false, .bool false, .bool false]) := Lib.hid ((heap_setCell_other _ _ _ _ (by show w.heap.size + 1 ≠ W0.heap.size; exact hgn)).trans t0.out)
      have B5 := Lib.hid (below_setCell25 B4.out (show W0.heap.size ≤ (⟨W0.heap.size, 11, none⟩ : Addr).block from hgB) (.bool false))
      clear g0 t0 B4
      go_upto_region 7 with fail
      clear y11 z11 k18
      generalize W7.setCell ⟨W0.heap.size, 11, none⟩ (.bool false) = W8 at *
      have y15 : W8.cell? ⟨W0.heap.size, 15, none⟩ = some (.bool false) := Holds.cell g1.out 15
      have z15 : W8.frozen? ⟨W0.heap.size, 15, none⟩ = false := Holds.frozen g1.out 15
      obtain ⟨_, _, _, _, _, _, _, _, _, _, k19⟩ := HX.out _ B5.out
      have g2 : Hid (Holds (W8.setCell ⟨W0.heap.size, 15, none⟩ (.bool gu)) W0.heap.size 56 #[.string C, .slice c.a0 c.n0 c.c0, .slice c.a1 c.n1 c.c1, .slice c.a2 c.n2 c.c2, .slice c.a3 c.n3 c.c3, .slice c.a4 c.n4 c.c4, .slice c.a5 c.n5 c.c5, .slice c.a6 c.n6 c.c6, .slice c.a7 c.n7 c.c7, .slice none 0 0, .slice none 0 0, .bool false, .bool false, .bool true, .bool false, .bool gu]) := Lib.hid (holds_told25 g1.out (by kernel_rfl))
      have t2 : Hid (Holds (W8.setCell ⟨W0.heap.size, 15, none⟩ (.bool gu)) (w.heap.size + 1) 56 #[.string ⟨#[]⟩, .slice none 0 0, .slice none 0 0, .slice none 0 0, .slice none 0 0, .slice none 0 0, .slice none 0 0, .slice none 0 0, .slice none 0 0, .slice none 0 0, .slice none 0 0, .bool false, .bool false, .bool false, .bool false, .bool false]) := Lib.hid ((heap_setCell_other _ _ _ _ (by show w.heap.size + 1 ≠ W0.heap.size; exact hgn)).trans t1.out)
      have B6 := Lib.hid (below_setCell25 B5.out (show W0.heap.size ≤ (⟨W0.heap.size, 15, none⟩ : Addr).block from hgB) (.bool gu))
      go_wp2_with (first
        | (refine wpList_load_row rfl 56 _ rfl W0.heap.size rfl 56 #[.string C, .slice c.a0 c.n0 c.c0, .slice c.a1 c.n1 c.c1, .slice c.a2 c.n2 c.c2, .slice c.a3 c.n3 c.c3, .slice c.a4 c.n4 c.c4, .slice c.a5 c.n5 c.c5, .slice c.a6 c.n6 c.c6, .slice c.a7 c.n7 c.c7, .slice none 0 0, .slice none 0 0, .bool false, .bool false, .bool true, .bool false, .bool gu] (0, 0) _ (by exact g2.out) Tryd.underlying56 rfl (by exact sizeInit25) ?_)
        | (refine wpList_store_row rfl 56 _ _ rfl (w.heap.size + 1) #[.string C, .slice c.a0 c.n0 c.c0, .slice c.a1 c.n1 c.c1, .slice c.a2 c.n2 c.c2, .slice c.a3 c.n3 c.c3, .slice c.a4 c.n4 c.c4, .slice c.a5 c.n5 c.c5, .slice c.a6 c.n6 c.c6, .slice c.a7 c.n7 c.c7, .slice none 0 0, .slice none 0 0, .bool false, .bool false, .bool true, .bool false, .bool gu] rfl rfl 56 #[.string ⟨#[]⟩, .slice none 0 0, .slice none 0 0, .slice none 0 0, .slice none 0 0, .slice none 0 0, .slice none 0 0, .slice none 0 0, .slice none 0 0, .slice none 0 0, .slice none 0 0, .bool false, .bool false, .bool false, .bool false, .bool false] (by exact t2.out) (by exact sizeInit25) (by rfl) (by simp [Value.oneCell']) ?_)
        | fail)
      refine bodyPost_ret (results_cell_row rfl _ _ (w.heap.size + 1) _ #[.string C, .slice c.a0 c.n0 c.c0, .slice c.a1 c.n1 c.c1, .slice c.a2 c.n2 c.c2, .slice c.a3 c.n3 c.c3, .slice c.a4 c.n4 c.c4, .slice c.a5 c.n5 c.c5, .slice c.a6 c.n6 c.c6, .slice c.a7 c.n7 c.c7, .slice none 0 0, .slice none 0 0, .bool false, .bool false, .bool true, .bool false, .bool gu] (0, 0) _ rfl (setRow_heap _ (w.heap.size + 1) #[.string ⟨#[]⟩, .slice none 0 0, .slice none 0 0, .slice none 0 0, .slice none 0 0, .slice none 0 0, .slice none 0 0, .slice none 0 0, .slice none 0 0, .slice none 0 0, .slice none 0 0, .bool false, .bool false, .bool false, .bool false, .bool false] #[.string C, .slice c.a0 c.n0 c.c0, .slice c.a1 c.n1 c.c1, .slice c.a2 c.n2 c.c2, .slice c.a3 c.n3 c.c3, .slice c.a4 c.n4 c.c4, .slice c.a5 c.n5 c.c5, .slice c.a6 c.n6 c.c6, .slice c.a7 c.n7 c.c7, .slice none 0 0, .slice none 0 0, .bool false, .bool false, .bool true, .bool false, .bool gu] 56 (0, 0) (by exact t2.out)) Tryd.underlying56 rfl (by exact sizeInit25)) rfl ?_
      exact ⟨rfl, below_setRow (HB.out.trans (B6.out.mono HB.out.size)) (by omega) _⟩
  · refine wp_region_held_drew (S := fun w' => w'.cell? ⟨w.heap.size, 3, none⟩ = some (.slice c.a0 c.n0 c.c0) ∧ w'.cell? ⟨w.heap.size, 4, none⟩ = some (.slice c.a1 c.n1 c.c1) ∧ w'.cell? ⟨w.heap.size, 5, none⟩ = some (.slice c.a2 c.n2 c.c2) ∧ w'.cell? ⟨w.heap.size, 6, none⟩ = some (.slice c.a3 c.n3 c.c3) ∧ w'.cell? ⟨w.heap.size, 7, none⟩ = some (.slice c.a4 c.n4 c.c4) ∧ w'.cell? ⟨w.heap.size, 8, none⟩ = some (.slice c.a5 c.n5 c.c5) ∧ w'.cell? ⟨w.heap.size, 9, none⟩ = some (.slice c.a6 c.n6 c.c6) ∧ w'.cell? ⟨w.heap.size, 10, none⟩ = some (.slice c.a7 c.n7 c.c7)) (by kernel_rfl) ?_ (fun hHeld => ?_)
    · exact HPr.out _ BR.out
    refine wpAnyH_take (i := 0) (oi := { dst := some 8, op := Op.move (Operand.tmp 1), type := 3, pos := "ref.go:69", after := #[], guard := none }) (v := ?_) rfl (by kernel_rfl) (by kernel_rfl) (by kernel_rfl) (fun _ _ _ h => h) (Or.inl ⟨by rfl, ?_⟩) (by assumption) ?_
    rotate_left 1
    · (intro w hSw; (try dsimp only at hSw); go_simp; (try with_reducible rfl))
    try simp only [Act.put, List.setIfInBounds_toArray, List.set_cons_zero, List.set_cons_succ]
    refine wpAnyH_take (i := 1) (oi := { dst := some 9, op := Op.move (Operand.tmp 2), type := 3, pos := "ref.go:69", after := #[], guard := none }) (v := ?_) rfl (by kernel_rfl) (by kernel_rfl) (by kernel_rfl) (fun _ _ _ h => h) (Or.inl ⟨by rfl, ?_⟩) (by assumption) ?_
    rotate_left 1
    · (intro w hSw; (try dsimp only at hSw); go_simp; (try with_reducible rfl))
    try simp only [Act.put, List.setIfInBounds_toArray, List.set_cons_zero, List.set_cons_succ]
    refine wpAnyH_take (i := 3) (oi := { dst := some 11, op := Op.fieldAddr 51 (Operand.tmp 3) 3, type := 0, pos := "ref.go:69", after := #[], guard := none }) (v := ?_) rfl (by kernel_rfl) (by kernel_rfl) (by kernel_rfl) (fun _ _ _ h => h) (Or.inl ⟨by rfl, ?_⟩) (by assumption) ?_
    rotate_left 1
    · (intro w hSw; (try dsimp only at hSw); go_simp; (try with_reducible rfl))
    try simp only [Act.put, List.setIfInBounds_toArray, List.set_cons_zero, List.set_cons_succ]
    refine wpAnyH_take (i := 4) (oi := { dst := some 12, op := Op.load 46 (Operand.tmp 11), type := 46, pos := "ref.go:69", after := #[{ on := 3, ground := Ground.data }], guard := none }) (v := ?_) rfl (by kernel_rfl) (by kernel_rfl) (by kernel_rfl) (fun _ _ _ h => h) (Or.inl ⟨by rfl, ?_⟩) (by assumption) ?_
    rotate_left 1
    · (intro w hSw; (try dsimp only at hSw); go_simp; (try with_reducible rfl))
    try simp only [Act.put, List.setIfInBounds_toArray, List.set_cons_zero, List.set_cons_succ]
    refine wpAnyH_ready (rs := [2, 6]) (by kernel_rfl) (by simp) ?_
    refine AllReadyH.cons (o := { dst := some 10, op := Op.call { callee := Callee.value (Operand.func 41), args := #[Operand.tmp 8, Operand.tmp 9], argTypes := #[3, 3] }, type := 9, pos := "ref.go:69", after := #[{ on := 0, ground := Ground.data }, { on := 1, ground := Ground.data }], guard := none }) rfl (fun K hK => ?_) (AllReadyH.cons (o := { dst := some 7, op := Op.alloc 56, type := 0, pos := "ref.go:69", after := #[], guard := none }) rfl (fun K hK => ?_) AllReadyH.nil)
    · go_simp
      go_at_call 41
      with_reducible refine (HK.out _).mono ?_
      rintro e w1 ⟨rfl, bb1⟩
      have B1 := Lib.hid (BR.out.trans (bb1.mono BR.out.size))
      have BB := Lib.hid bb1
      clear bb1
      go_wp2_with fail
      refine hK.out _ _ ?_ (fun hHeld => ?_)
      · exact HPr.out _ B1.out
      clear hK K
      try simp only [Act.put, List.setIfInBounds_toArray, List.set_cons_zero, List.set_cons_succ]
      refine wpAnyH_take (i := 5) (oi := { dst := some 13, op := Op.build 56 #[(0, Operand.tmp 10), (1, Operand.tmp 12)], type := 56, pos := "ref.go:69", after := #[{ on := 2, ground := Ground.data }, { on := 4, ground := Ground.data }], guard := none }) (v := ?_) rfl (by kernel_rfl) (by kernel_rfl) (by kernel_rfl) (fun _ _ _ h => h) (Or.inl ⟨by rfl, ?_⟩) (by assumption) ?_
      rotate_left 1
      · (intro w hSw; (try dsimp only at hSw); go_simp; (try with_reducible rfl))
      try simp only [Act.put, List.setIfInBounds_toArray, List.set_cons_zero, List.set_cons_succ]
      refine wpAnyH_ready (rs := [6]) (by kernel_rfl) (by simp) ?_
      refine AllReadyH.cons (o := { dst := some 7, op := Op.alloc 56, type := 0, pos := "ref.go:69", after := #[], guard := none }) rfl (fun K hK => ?_) AllReadyH.nil
      go_simp
      have B2 : Hid (Below W0.heap.size W0 (w1.alloc (.cells #[.string ⟨#[]⟩, .slice none 0 0, .slice none 0 0, .slice none 0 0, .slice none 0 0, .slice none 0 0, .slice none 0 0, .slice none 0 0, .slice none 0 0, .slice none 0 0, .slice none 0 0, .bool false, .bool false, .bool false, .bool false, .bool false] 56))) := B1.out.alloc B1.out.size _
      refine hK.out _ _ ?_ (fun hHeld => ?_)
      · exact HPr.out _ B2.out
      clear hK K
      try simp only [Act.put, List.setIfInBounds_toArray, List.set_cons_zero, List.set_cons_succ]
      refine wpAnyH_ready (rs := [7]) (by kernel_rfl) (by simp) ?_
      refine AllReadyH.cons rfl (fun K hK => ?_) AllReadyH.nil
      refine step_store_row15 rfl 56 _ _ rfl w1.heap.size #[.string C, .slice c.a0 c.n0 c.c0, .slice c.a1 c.n1 c.c1, .slice c.a2 c.n2 c.c2, .slice c.a3 c.n3 c.c3, .slice c.a4 c.n4 c.c4, .slice c.a5 c.n5 c.c5, .slice c.a6 c.n6 c.c6, .slice c.a7 c.n7 c.c7, .slice none 0 0, .slice none 0 0, .bool false, .bool false, .bool false, .bool false, .bool false] rfl rfl 56 #[.string ⟨#[]⟩, .slice none 0 0, .slice none 0 0, .slice none 0 0, .slice none 0 0, .slice none 0 0, .slice none 0 0, .slice none 0 0, .slice none 0 0, .slice none 0 0, .slice none 0 0, .bool false, .bool false, .bool false, .bool false, .bool false] (new_row w1 _ _ rfl) (by exact sizeInit25) (by rfl) (by simp [Value.oneCell']) ?_
      rw [alloc_setRow w1 _ _ _ rfl]
      have B3 : Hid (Below W0.heap.size W0 (w1.alloc (.cells #[.string C, .slice c.a0 c.n0 c.c0, .slice c.a1 c.n1 c.c1, .slice c.a2 c.n2 c.c2, .slice c.a3 c.n3 c.c3, .slice c.a4 c.n4 c.c4, .slice c.a5 c.n5 c.c5, .slice c.a6 c.n6 c.c6, .slice c.a7 c.n7 c.c7, .slice none 0 0, .slice none 0 0, .bool false, .bool false, .bool false, .bool false, .bool false] 56))) := B1.out.alloc B1.out.size _
      refine hK.out _ _ ?_ (fun hHeld => ?_)
      · exact HPr.out _ B3.out
      clear hK K
      try simp only [Act.put, List.setIfInBounds_toArray, List.set_cons_zero, List.set_cons_succ]
      refine wpAnyH_done (by kernel_rfl) ?_ _
      have HG : Hid (Holds (w1.alloc (.cells #[.string C, .slice c.a0 c.n0 c.c0, .slice c.a1 c.n1 c.c1, .slice c.a2 c.n2 c.c2, .slice c.a3 c.n3 c.c3, .slice c.a4 c.n4 c.c4, .slice c.a5 c.n5 c.c5, .slice c.a6 c.n6 c.c6, .slice c.a7 c.n7 c.c7, .slice none 0 0, .slice none 0 0, .bool false, .bool false, .bool false, .bool false, .bool false] 56)) w1.heap.size 56 #[.string C, .slice c.a0 c.n0 c.c0, .slice c.a1 c.n1 c.c1, .slice c.a2 c.n2 c.c2, .slice c.a3 c.n3 c.c3, .slice c.a4 c.n4 c.c4, .slice c.a5 c.n5 c.c5, .slice c.a6 c.n6 c.c6, .slice c.a7 c.n7 c.c7, .slice none 0 0, .slice none 0 0, .bool false, .bool false, .bool false, .bool false, .bool false]) := Lib.hid (Holds.new w1 56 #[.string C, .slice c.a0 c.n0 c.c0, .slice c.a1 c.n1 c.c1, .slice c.a2 c.n2 c.c2, .slice c.a3 c.n3 c.c3, .slice c.a4 c.n4 c.c4, .slice c.a5 c.n5 c.c5, .slice c.a6 c.n6 c.c6, .slice c.a7 c.n7 c.c7, .slice none 0 0, .slice none 0 0, .bool false, .bool false, .bool false, .bool false, .bool false])
      have hgB : W0.heap.size ≤ w1.heap.size := B1.out.size
      have hgn : w.heap.size + 1 ≠ w1.heap.size := by have := HS0.out; omega
      obtain ⟨W, hW⟩ : ∃ W, Hid (W = (w1.alloc (.cells #[.string C, .slice c.a0 c.n0 c.c0, .slice c.a1 c.n1 c.c1, .slice c.a2 c.n2 c.c2, .slice c.a3 c.n3 c.c3, .slice c.a4 c.n4 c.c4, .slice c.a5 c.n5 c.c5, .slice c.a6 c.n6 c.c6, .slice c.a7 c.n7 c.c7, .slice none 0 0, .slice none 0 0, .bool false, .bool false, .bool false, .bool false, .bool false] 56))) := ⟨_, Lib.hid rfl⟩
      rw [← hW.out] at HG B3 ⊢
      have hI3 := Lib.hid ((B3.out.block _ HI.out.lt).trans HI.out)
      obtain ⟨k0, _, _, _, _, _, _, _, _, k18, k19⟩ := HX.out _ B3.out
      clear hHeld HPr k0 k18 k19
      have y13 : W.cell? ⟨w1.heap.size, 13, none⟩ = some (.bool false) := Holds.cell HG.out 13
      have z13 : W.frozen? ⟨w1.heap.size, 13, none⟩ = false := Holds.frozen HG.out 13
      obtain ⟨k0, _, _, _, _, _, _, _, _, _, _⟩ := HX.out _ B3.out
      have g0 : Hid (Holds (W.setCell ⟨w1.heap.size, 13, none⟩ (.bool true)) w1.heap.size 56 #[.string C, .slice c.a0 c.n0 c.c0, .slice c.a1 c.n1 c.c1, .slice c.a2 c.n2 c.c2, .slice c.a3 c.n3 c.c3, .slice c.a4 c.n4 c.c4, .slice c.a5 c.n5 c.c5, .slice c.a6 c.n6 c.c6, .slice c.a7 c.n7 c.c7, .slice none 0 0, .slice none 0 0, .bool false, .bool false, .bool true, .bool false, .bool false]) := Lib.hid (holds_told25 HG.out (by kernel_rfl))
      have t0 : Hid (Holds (W.setCell ⟨w1.heap.size, 13, none⟩ (.bool true)) (w.heap.size + 1) 56 #[.string ⟨#[]⟩, .slice none 0 0, .slice none 0 0, .slice none 0 0, .slice none 0 0, .slice none 0 0, .slice none 0 0, .slice none 0 0, .slice none 0 0, .slice none 0 0, .slice none 0 0, .bool false, .bool false, .bool false, .bool false, .bool false]) := Lib.hid ((heap_setCell_other _ _ _ _ (by show w.heap.size + 1 ≠ w1.heap.size; exact hgn)).trans hI3.out)
      have B4 := Lib.hid (below_setCell25 B3.out (show W0.heap.size ≤ (⟨w1.heap.size, 13, none⟩ : Addr).block from hgB) (.bool true))
      clear HG hI3 B3
      go_upto_region 6 with fail
      clear y13 z13 k0
      generalize W.setCell ⟨w1.heap.size, 13, none⟩ (.bool true) = W7 at *
      have y11 : W7.cell? ⟨w1.heap.size, 11, none⟩ = some (.bool false) := Holds.cell g0.out 11
      have z11 : W7.frozen? ⟨w1.heap.size, 11, none⟩ = false := Holds.frozen g0.out 11
      obtain ⟨_, _, _, _, _, _, _, _, _, k18, _⟩ := HX.out _ B4.out
      have g1 : Hid (Holds (W7.setCell ⟨w1.heap.size, 11, none⟩ (.bool true)) w1.heap.size 56 #[.string C, .slice c.a0 c.n0 c.c0, .slice c.a1 c.n1 c.c1, .slice c.a2 c.n2 c.c2, .slice c.a3 c.n3 c.c3, .slice c.a4 c.n4 c.c4, .slice c.a5 c.n5 c.c5, .slice c.a6 c.n6 c.c6, .slice c.a7 c.n7 c.c7, .slice none 0 0, .slice none 0 0, .bool true, .bool false, .bool true, .bool false, .bool false]) := Lib.hid (holds_told25 g0.out (by kernel_rfl))
      have t1 : Hid (Holds (W7.setCell ⟨w1.heap.size, 11, none⟩ (.bool true)) (w.heap.size + 1) 56 #[.string ⟨#[]⟩, .slice none 0 0, .slice none 0 0, .slice none 0 0, .slice none 0 0, .slice none 0 0, .slice none 0 0, .slice none 0 0, .slice none 0 0, .slice none 0 0, .slice none 0 0, .bool false, .bool false, .bool false, .bool false, .bool false]) := Lib.hid ((heap_setCell_other _ _ _ _ (by show w.heap.size + 1 ≠ w1.heap.size; exact hgn)).trans t0.out)
      have B5 := Lib.hid (below_setCell25 B4.out (show W0.heap.size ≤ (⟨w1.heap.size, 11, none⟩ : Addr).block from hgB) (.bool true))
      clear g0 t0 B4
      go_upto_region 7 with fail
      clear y11 z11 k18
      generalize W7.setCell ⟨w1.heap.size, 11, none⟩ (.bool true) = W8 at *
      have y15 : W8.cell? ⟨w1.heap.size, 15, none⟩ = some (.bool false) := Holds.cell g1.out 15
      have z15 : W8.frozen? ⟨w1.heap.size, 15, none⟩ = false := Holds.frozen g1.out 15
      obtain ⟨_, _, _, _, _, _, _, _, _, _, k19⟩ := HX.out _ B5.out
      have g2 : Hid (Holds (W8.setCell ⟨w1.heap.size, 15, none⟩ (.bool gu)) w1.heap.size 56 #[.string C, .slice c.a0 c.n0 c.c0, .slice c.a1 c.n1 c.c1, .slice c.a2 c.n2 c.c2, .slice c.a3 c.n3 c.c3, .slice c.a4 c.n4 c.c4, .slice c.a5 c.n5 c.c5, .slice c.a6 c.n6 c.c6, .slice c.a7 c.n7 c.c7, .slice none 0 0, .slice none 0 0, .bool true, .bool false, .bool true, .bool false, .bool gu]) := Lib.hid (holds_told25 g1.out (by kernel_rfl))
      have t2 : Hid (Holds (W8.setCell ⟨w1.heap.size, 15, none⟩ (.bool gu)) (w.heap.size + 1) 56 #[.string ⟨#[]⟩, .slice none 0 0, .slice none 0 0, .slice none 0 0, .slice none 0 0, .slice none 0 0, .slice none 0 0, .slice none 0 0, .slice none 0 0, .slice none 0 0, .slice none 0 0, .bool false, .bool false, .bool false, .bool false, .bool false]) := Lib.hid ((heap_setCell_other _ _ _ _ (by show w.heap.size + 1 ≠ w1.heap.size; exact hgn)).trans t1.out)
      have B6 := Lib.hid (below_setCell25 B5.out (show W0.heap.size ≤ (⟨w1.heap.size, 15, none⟩ : Addr).block from hgB) (.bool gu))
      go_wp2_with (first
        | (refine wpList_load_row rfl 56 _ rfl w1.heap.size rfl 56 #[.string C, .slice c.a0 c.n0 c.c0, .slice c.a1 c.n1 c.c1, .slice c.a2 c.n2 c.c2, .slice c.a3 c.n3 c.c3, .slice c.a4 c.n4 c.c4, .slice c.a5 c.n5 c.c5, .slice c.a6 c.n6 c.c6, .slice c.a7 c.n7 c.c7, .slice none 0 0, .slice none 0 0, .bool true, .bool false, .bool true, .bool false, .bool gu] (0, 0) _ (by exact g2.out) Tryd.underlying56 rfl (by exact sizeInit25) ?_)
        | (refine wpList_store_row rfl 56 _ _ rfl (w.heap.size + 1) #[.string C, .slice c.a0 c.n0 c.c0, .slice c.a1 c.n1 c.c1, .slice c.a2 c.n2 c.c2, .slice c.a3 c.n3 c.c3, .slice c.a4 c.n4 c.c4, .slice c.a5 c.n5 c.c5, .slice c.a6 c.n6 c.c6, .slice c.a7 c.n7 c.c7, .slice none 0 0, .slice none 0 0, .bool true, .bool false, .bool true, .bool false, .bool gu] rfl rfl 56 #[.string ⟨#[]⟩, .slice none 0 0, .slice none 0 0, .slice none 0 0, .slice none 0 0, .slice none 0 0, .slice none 0 0, .slice none 0 0, .slice none 0 0, .slice none 0 0, .slice none 0 0, .bool false, .bool false, .bool false, .bool false, .bool false] (by exact t2.out) (by exact sizeInit25) (by rfl) (by simp [Value.oneCell']) ?_)
        | fail)
      refine bodyPost_ret (results_cell_row rfl _ _ (w.heap.size + 1) _ #[.string C, .slice c.a0 c.n0 c.c0, .slice c.a1 c.n1 c.c1, .slice c.a2 c.n2 c.c2, .slice c.a3 c.n3 c.c3, .slice c.a4 c.n4 c.c4, .slice c.a5 c.n5 c.c5, .slice c.a6 c.n6 c.c6, .slice c.a7 c.n7 c.c7, .slice none 0 0, .slice none 0 0, .bool true, .bool false, .bool true, .bool false, .bool gu] (0, 0) _ rfl (setRow_heap _ (w.heap.size + 1) #[.string ⟨#[]⟩, .slice none 0 0, .slice none 0 0, .slice none 0 0, .slice none 0 0, .slice none 0 0, .slice none 0 0, .slice none 0 0, .slice none 0 0, .slice none 0 0, .slice none 0 0, .bool false, .bool false, .bool false, .bool false, .bool false] #[.string C, .slice c.a0 c.n0 c.c0, .slice c.a1 c.n1 c.c1, .slice c.a2 c.n2 c.c2, .slice c.a3 c.n3 c.c3, .slice c.a4 c.n4 c.c4, .slice c.a5 c.n5 c.c5, .slice c.a6 c.n6 c.c6, .slice c.a7 c.n7 c.c7, .slice none 0 0, .slice none 0 0, .bool true, .bool false, .bool true, .bool false, .bool gu] 56 (0, 0) (by exact t2.out)) Tryd.underlying56 rfl (by exact sizeInit25)) rfl ?_
      exact ⟨rfl, below_setRow (HB.out.trans (B6.out.mono HB.out.size)) (by omega) _⟩
    · go_simp
      have B2 : Hid (Below W0.heap.size W0 (W0.drew.alloc (.cells #[.string ⟨#[]⟩, .slice none 0 0, .slice none 0 0, .slice none 0 0, .slice none 0 0, .slice none 0 0, .slice none 0 0, .slice none 0 0, .slice none 0 0, .slice none 0 0, .slice none 0 0, .bool false, .bool false, .bool false, .bool false, .bool false] 56))) := BR.out.alloc BR.out.size _
      have HI2 := Lib.hid (Holds.new W0.drew 56 #[.string ⟨#[]⟩, .slice none 0 0, .slice none 0 0, .slice none 0 0, .slice none 0 0, .slice none 0 0, .slice none 0 0, .slice none 0 0, .slice none 0 0, .slice none 0 0, .slice none 0 0, .bool false, .bool false, .bool false, .bool false, .bool false])
      refine hK.out _ _ ?_ (fun hHeld => ?_)
      · exact HPr.out _ B2.out
      clear hK K
      try simp only [Act.put, List.setIfInBounds_toArray, List.set_cons_zero, List.set_cons_succ]
      refine wpAnyH_ready (rs := [2]) (by kernel_rfl) (by simp) ?_
      refine AllReadyH.cons (o := { dst := some 10, op := Op.call { callee := Callee.value (Operand.func 41), args := #[Operand.tmp 8, Operand.tmp 9], argTypes := #[3, 3] }, type := 9, pos := "ref.go:69", after := #[{ on := 0, ground := Ground.data }, { on := 1, ground := Ground.data }], guard := none }) rfl (fun K hK => ?_) AllReadyH.nil
      go_simp
      go_at_call 41
      with_reducible refine (HK.out _).mono ?_
      rintro e w1 ⟨rfl, bb1⟩
      have B1 := Lib.hid (B2.out.trans (bb1.mono B2.out.size))
      have BB := Lib.hid bb1
      clear bb1
      go_wp2_with fail
      refine hK.out _ _ ?_ (fun hHeld => ?_)
      · exact HPr.out _ B1.out
      clear hK K
      try simp only [Act.put, List.setIfInBounds_toArray, List.set_cons_zero, List.set_cons_succ]
      refine wpAnyH_take (i := 5) (oi := { dst := some 13, op := Op.build 56 #[(0, Operand.tmp 10), (1, Operand.tmp 12)], type := 56, pos := "ref.go:69", after := #[{ on := 2, ground := Ground.data }, { on := 4, ground := Ground.data }], guard := none }) (v := ?_) rfl (by kernel_rfl) (by kernel_rfl) (by kernel_rfl) (fun _ _ _ h => h) (Or.inl ⟨by rfl, ?_⟩) (by assumption) ?_
      rotate_left 1
      · (intro w hSw; (try dsimp only at hSw); go_simp; (try with_reducible rfl))
      try simp only [Act.put, List.setIfInBounds_toArray, List.set_cons_zero, List.set_cons_succ]
      refine wpAnyH_ready (rs := [7]) (by kernel_rfl) (by simp) ?_
      refine AllReadyH.cons rfl (fun K hK => ?_) AllReadyH.nil
      refine step_store_row15 rfl 56 _ _ rfl W0.drew.heap.size #[.string C, .slice c.a0 c.n0 c.c0, .slice c.a1 c.n1 c.c1, .slice c.a2 c.n2 c.c2, .slice c.a3 c.n3 c.c3, .slice c.a4 c.n4 c.c4, .slice c.a5 c.n5 c.c5, .slice c.a6 c.n6 c.c6, .slice c.a7 c.n7 c.c7, .slice none 0 0, .slice none 0 0, .bool false, .bool false, .bool false, .bool false, .bool false] rfl rfl 56 #[.string ⟨#[]⟩, .slice none 0 0, .slice none 0 0, .slice none 0 0, .slice none 0 0, .slice none 0 0, .slice none 0 0, .slice none 0 0, .slice none 0 0, .slice none 0 0, .slice none 0 0, .bool false, .bool false, .bool false, .bool false, .bool false] ((BB.out.block _ HI2.out.lt).trans HI2.out) (by exact sizeInit25) (by rfl) (by simp [Value.oneCell']) ?_
      have B3 : Hid (Below W0.heap.size W0 (w1.setRow W0.drew.heap.size #[.string C, .slice c.a0 c.n0 c.c0, .slice c.a1 c.n1 c.c1, .slice c.a2 c.n2 c.c2, .slice c.a3 c.n3 c.c3, .slice c.a4 c.n4 c.c4, .slice c.a5 c.n5 c.c5, .slice c.a6 c.n6 c.c6, .slice c.a7 c.n7 c.c7, .slice none 0 0, .slice none 0 0, .bool false, .bool false, .bool false, .bool false, .bool false])) := Lib.hid (below_setRow (g := W0.drew.heap.size) B1.out (Nat.le_refl _) #[.string C, .slice c.a0 c.n0 c.c0, .slice c.a1 c.n1 c.c1, .slice c.a2 c.n2 c.c2, .slice c.a3 c.n3 c.c3, .slice c.a4 c.n4 c.c4, .slice c.a5 c.n5 c.c5, .slice c.a6 c.n6 c.c6, .slice c.a7 c.n7 c.c7, .slice none 0 0, .slice none 0 0, .bool false, .bool false, .bool false, .bool false, .bool false])
      refine hK.out _ _ ?_ (fun hHeld => ?_)
      · exact HPr.out _ B3.out
      clear hK K
      try simp only [Act.put, List.setIfInBounds_toArray, List.set_cons_zero, List.set_cons_succ]
      refine wpAnyH_done (by kernel_rfl) ?_ _
      have HG : Hid (Holds (w1.setRow W0.drew.heap.size #[.string C, .slice c.a0 c.n0 c.c0, .slice c.a1 c.n1 c.c1, .slice c.a2 c.n2 c.c2, .slice c.a3 c.n3 c.c3, .slice c.a4 c.n4 c.c4, .slice c.a5 c.n5 c.c5, .slice c.a6 c.n6 c.c6, .slice c.a7 c.n7 c.c7, .slice none 0 0, .slice none 0 0, .bool false, .bool false, .bool false, .bool false, .bool false]) W0.heap.size 56 #[.string C, .slice c.a0 c.n0 c.c0, .slice c.a1 c.n1 c.c1, .slice c.a2 c.n2 c.c2, .slice c.a3 c.n3 c.c3, .slice c.a4 c.n4 c.c4, .slice c.a5 c.n5 c.c5, .slice c.a6 c.n6 c.c6, .slice c.a7 c.n7 c.c7, .slice none 0 0, .slice none 0 0, .bool false, .bool false, .bool false, .bool false, .bool false]) := Lib.hid (setRow_heap w1 W0.heap.size #[.string ⟨#[]⟩, .slice none 0 0, .slice none 0 0, .slice none 0 0, .slice none 0 0, .slice none 0 0, .slice none 0 0, .slice none 0 0, .slice none 0 0, .slice none 0 0, .slice none 0 0, .bool false, .bool false, .bool false, .bool false, .bool false] #[.string C, .slice c.a0 c.n0 c.c0, .slice c.a1 c.n1 c.c1, .slice c.a2 c.n2 c.c2, .slice c.a3 c.n3 c.c3, .slice c.a4 c.n4 c.c4, .slice c.a5 c.n5 c.c5, .slice c.a6 c.n6 c.c6, .slice c.a7 c.n7 c.c7, .slice none 0 0, .slice none 0 0, .bool false, .bool false, .bool false, .bool false, .bool false] 56 (0, 0) ((BB.out.block _ HI2.out.lt).trans HI2.out))
      have hgB : W0.heap.size ≤ W0.heap.size := Nat.le_refl _
      have hgn : w.heap.size + 1 ≠ W0.heap.size := by have := HS0.out; omega
      obtain ⟨W, hW⟩ : ∃ W, Hid (W = (w1.setRow W0.drew.heap.size #[.string C, .slice c.a0 c.n0 c.c0, .slice c.a1 c.n1 c.c1, .slice c.a2 c.n2 c.c2, .slice c.a3 c.n3 c.c3, .slice c.a4 c.n4 c.c4, .slice c.a5 c.n5 c.c5, .slice c.a6 c.n6 c.c6, .slice c.a7 c.n7 c.c7, .slice none 0 0, .slice none 0 0, .bool false, .bool false, .bool false, .bool false, .bool false])) := ⟨_, Lib.hid rfl⟩
      rw [← hW.out] at HG B3 ⊢
      have hI3 := Lib.hid ((B3.out.block _ HI.out.lt).trans HI.out)
      obtain ⟨k0, _, _, _, _, _, _, _, _, k18, k19⟩ := HX.out _ B3.out
      clear hHeld HPr k0 k18 k19
      have y13 : W.cell? ⟨W0.heap.size, 13, none⟩ = some (.bool false) := Holds.cell HG.out 13
      have z13 : W.frozen? ⟨W0.heap.size, 13, none⟩ = false := Holds.frozen HG.out 13
      obtain ⟨k0, _, _, _, _, _, _, _, _, _, _⟩ := HX.out _ B3.out
      have g0 : Hid (Holds (W.setCell ⟨W0.heap.size, 13, none⟩ (.bool true)) W0.heap.size 56 #[.string C, .slice c.a0 c.n0 c.c0, .slice c.a1 c.n1 c.c1, .slice c.a2 c.n2 c.c2, .slice c.a3 c.n3 c.c3, .slice c.a4 c.n4 c.c4, .slice c.a5 c.n5 c.c5, .slice c.a6 c.n6 c.c6, .slice c.a7 c.n7 c.c7, .slice none 0 0, .slice none 0 0, .bool false, .bool false, .bool true, .bool false, .bool false]) := Lib.hid (holds_told25 HG.out (by kernel_rfl))
      have t0 : Hid (Holds (W.setCell ⟨W0.heap.size, 13, none⟩ (.bool true)) (w.heap.size + 1) 56 #[.string ⟨#[]⟩, .slice none 0 0, .slice none 0 0, .slice none 0 0, .slice none 0 0, .slice none 0 0, .slice none 0 0, .slice none 0 0, .slice none 0 0, .slice none 0 0, .slice none 0 0, .bool false, .bool false, .bool false, .bool false, .bool false]) := Lib.hid ((heap_setCell_other _ _ _ _ (by show w.heap.size + 1 ≠ W0.heap.size; exact hgn)).trans hI3.out)
      have B4 := Lib.hid (below_setCell25 B3.out (show W0.heap.size ≤ (⟨W0.heap.size, 13, none⟩ : Addr).block from hgB) (.bool true))
      clear HG hI3 B3
      go_upto_region 6 with fail
      clear y13 z13 k0
      generalize W.setCell ⟨W0.heap.size, 13, none⟩ (.bool true) = W7 at *
      have y11 : W7.cell? ⟨W0.heap.size, 11, none⟩ = some (.bool false) := Holds.cell g0.out 11
      have z11 : W7.frozen? ⟨W0.heap.size, 11, none⟩ = false := Holds.frozen g0.out 11
      obtain ⟨_, _, _, _, _, _, _, _, _, k18, _⟩ := HX.out _ B4.out
      have g1 : Hid (Holds (W7.setCell ⟨W0.heap.size, 11, none⟩ (.bool true)) W0.heap.size 56 #[.string C, .slice c.a0 c.n0 c.c0, .slice c.a1 c.n1 c.c1, .slice c.a2 c.n2 c.c2, .slice c.a3 c.n3 c.c3, .slice c.a4 c.n4 c.c4, .slice c.a5 c.n5 c.c5, .slice c.a6 c.n6 c.c6, .slice c.a7 c.n7 c.c7, .slice none 0 0, .slice none 0 0, .bool true, .bool false, .bool true, .bool false, .bool false]) := Lib.hid (holds_told25 g0.out (by kernel_rfl))
      have t1 : Hid (Holds (W7.setCell ⟨W0.heap.size, 11, none⟩ (.bool true)) (w.heap.size + 1) 56 #[.string ⟨#[]⟩, .slice none 0 0, .slice none 0 0, .slice none 0 0, .slice none 0 0, .slice none 0 0, .slice none 0 0, .slice none 0 0, .slice none 0 0, .slice none 0 0, .slice none 0 0, .bool false, .bool false, .bool false, .bool false, .bool false]) := Lib.hid ((heap_setCell_other _ _ _ _ (by show w.heap.size + 1 ≠ W0.heap.size; exact hgn)).trans t0.out)
      have B5 := Lib.hid (below_setCell25 B4.out (show W0.heap.size ≤ (⟨W0.heap.size, 11, none⟩ : Addr).block from hgB) (.bool true))
      clear g0 t0 B4
      go_upto_region 7 with fail
      clear y11 z11 k18
      generalize W7.setCell ⟨W0.heap.size, 11, none⟩ (.bool true) = W8 at *
      have y15 : W8.cell? ⟨W0.heap.size, 15, none⟩ = some (.bool false) := Holds.cell g1.out 15
      have z15 : W8.frozen? ⟨W0.heap.size, 15, none⟩ = false := Holds.frozen g1.out 15
      obtain ⟨_, _, _, _, _, _, _, _, _, _, k19⟩ := HX.out _ B5.out
      have g2 : Hid (Holds (W8.setCell ⟨W0.heap.size, 15, none⟩ (.bool gu)) W0.heap.size 56 #[.string C, .slice c.a0 c.n0 c.c0, .slice c.a1 c.n1 c.c1, .slice c.a2 c.n2 c.c2, .slice c.a3 c.n3 c.c3, .slice c.a4 c.n4 c.c4, .slice c.a5 c.n5 c.c5, .slice c.a6 c.n6 c.c6, .slice c.a7 c.n7 c.c7, .slice none 0 0, .slice none 0 0, .bool true, .bool false, .bool true, .bool false, .bool gu]) := Lib.hid (holds_told25 g1.out (by kernel_rfl))
      have t2 : Hid (Holds (W8.setCell ⟨W0.heap.size, 15, none⟩ (.bool gu)) (w.heap.size + 1) 56 #[.string ⟨#[]⟩, .slice none 0 0, .slice none 0 0, .slice none 0 0, .slice none 0 0, .slice none 0 0, .slice none 0 0, .slice none 0 0, .slice none 0 0, .slice none 0 0, .slice none 0 0, .bool false, .bool false, .bool false, .bool false, .bool false]) := Lib.hid ((heap_setCell_other _ _ _ _ (by show w.heap.size + 1 ≠ W0.heap.size; exact hgn)).trans t1.out)
      have B6 := Lib.hid (below_setCell25 B5.out (show W0.heap.size ≤ (⟨W0.heap.size, 15, none⟩ : Addr).block from hgB) (.bool gu))
      go_wp2_with (first
        | (refine wpList_load_row rfl 56 _ rfl W0.heap.size rfl 56 #[.string C, .slice c.a0 c.n0 c.c0, .slice c.a1 c.n1 c.c1, .slice c.a2 c.n2 c.c2, .slice c.a3 c.n3 c.c3, .slice c.a4 c.n4 c.c4, .slice c.a5 c.n5 c.c5, .slice c.a6 c.n6 c.c6, .slice c.a7 c.n7 c.c7, .slice none 0 0, .slice none 0 0, .bool true, .bool false, .bool true, .bool false, .bool gu] (0, 0) _ (by exact g2.out) Tryd.underlying56 rfl (by exact sizeInit25) ?_)
        | (refine wpList_store_row rfl 56 _ _ rfl (w.heap.size + 1) #[.string C, .slice c.a0 c.n0 c.c0, .slice c.a1 c.n1 c.c1, .slice c.a2 c.n2 c.c2, .slice c.a3 c.n3 c.c3, .slice c.a4 c.n4 c.c4, .slice c.a5 c.n5 c.c5, .slice c.a6 c.n6 c.c6, .slice c.a7 c.n7 c.c7, .slice none 0 0, .slice none 0 0, .bool true, .bool false, .bool true, .bool false, .bool gu] rfl rfl 56 #[.string ⟨#[]⟩, .slice none 0 0, .slice none 0 0, .slice none 0 0, .slice none 0 0, .slice none 0 0, .slice none 0 0, .slice none 0 0, .slice none 0 0, .slice none 0 0, .slice none 0 0, .bool false, .bool false, .bool false, .bool false, .bool false] (by exact t2.out) (by exact sizeInit25) (by rfl) (by simp [Value.oneCell']) ?_)
        | fail)
      refine bodyPost_ret (results_cell_row rfl _ _ (w.heap.size + 1) _ #[.string C, .slice c.a0 c.n0 c.c0, .slice c.a1 c.n1 c.c1, .slice c.a2 c.n2 c.c2, .slice c.a3 c.n3 c.c3, .slice c.a4 c.n4 c.c4, .slice c.a5 c.n5 c.c5, .slice c.a6 c.n6 c.c6, .slice c.a7 c.n7 c.c7, .slice none 0 0, .slice none 0 0, .bool true, .bool false, .bool true, .bool false, .bool gu] (0, 0) _ rfl (setRow_heap _ (w.heap.size + 1) #[.string ⟨#[]⟩, .slice none 0 0, .slice none 0 0, .slice none 0 0, .slice none 0 0, .slice none 0 0, .slice none 0 0, .slice none 0 0, .slice none 0 0, .slice none 0 0, .slice none 0 0, .bool false, .bool false, .bool false, .bool false, .bool false] #[.string C, .slice c.a0 c.n0 c.c0, .slice c.a1 c.n1 c.c1, .slice c.a2 c.n2 c.c2, .slice c.a3 c.n3 c.c3, .slice c.a4 c.n4 c.c4, .slice c.a5 c.n5 c.c5, .slice c.a6 c.n6 c.c6, .slice c.a7 c.n7 c.c7, .slice none 0 0, .slice none 0 0, .bool true, .bool false, .bool true, .bool false, .bool gu] 56 (0, 0) (by exact t2.out)) Tryd.underlying56 rfl (by exact sizeInit25)) rfl ?_
      exact ⟨rfl, below_setRow (HB.out.trans (B6.out.mono HB.out.size)) (by omega) _⟩
  · refine wp_region_held_drew (S := fun w' => w'.cell? ⟨w.heap.size, 3, none⟩ = some (.slice c.a0 c.n0 c.c0) ∧ w'.cell? ⟨w.heap.size, 4, none⟩ = some (.slice c.a1 c.n1 c.c1) ∧ w'.cell? ⟨w.heap.size, 5, none⟩ = some (.slice c.a2 c.n2 c.c2) ∧ w'.cell? ⟨w.heap.size, 6, none⟩ = some (.slice c.a3 c.n3 c.c3) ∧ w'.cell? ⟨w.heap.size, 7, none⟩ = some (.slice c.a4 c.n4 c.c4) ∧ w'.cell? ⟨w.heap.size, 8, none⟩ = some (.slice c.a5 c.n5 c.c5) ∧ w'.cell? ⟨w.heap.size, 9, none⟩ = some (.slice c.a6 c.n6 c.c6) ∧ w'.cell? ⟨w.heap.size, 10, none⟩ = some (.slice c.a7 c.n7 c.c7)) (by kernel_rfl) ?_ (fun hHeld => ?_)
    · exact HPr.out _ BR.out
    refine wpAnyH_take (i := 0) (oi := { dst := some 8, op := Op.move (Operand.tmp 1), type := 3, pos := "ref.go:69", after := #[], guard := none }) (v := ?_) rfl (by kernel_rfl) (by kernel_rfl) (by kernel_rfl) (fun _ _ _ h => h) (Or.inl ⟨by rfl, ?_⟩) (by assumption) ?_
    rotate_left 1
    · (intro w hSw; (try dsimp only at hSw); go_simp; (try with_reducible rfl))
    try simp only [Act.put, List.setIfInBounds_toArray, List.set_cons_zero, List.set_cons_succ]
    refine wpAnyH_take (i := 1) (oi := { dst := some 9, op := Op.move (Operand.tmp 2), type := 3, pos := "ref.go:69", after := #[], guard := none }) (v := ?_) rfl (by kernel_rfl) (by kernel_rfl) (by kernel_rfl) (fun _ _ _ h => h) (Or.inl ⟨by rfl, ?_⟩) (by assumption) ?_
    rotate_left 1
    · (intro w hSw; (try dsimp only at hSw); go_simp; (try with_reducible rfl))
    try simp only [Act.put, List.setIfInBounds_toArray, List.set_cons_zero, List.set_cons_succ]
    refine wpAnyH_take (i := 3) (oi := { dst := some 11, op := Op.fieldAddr 51 (Operand.tmp 3) 3, type := 0, pos := "ref.go:69", after := #[], guard := none }) (v := ?_) rfl (by kernel_rfl) (by kernel_rfl) (by kernel_rfl) (fun _ _ _ h => h) (Or.inl ⟨by rfl, ?_⟩) (by assumption) ?_
    rotate_left 1
    · (intro w hSw; (try dsimp only at hSw); go_simp; (try with_reducible rfl))
    try simp only [Act.put, List.setIfInBounds_toArray, List.set_cons_zero, List.set_cons_succ]
    refine wpAnyH_take (i := 4) (oi := { dst := some 12, op := Op.load 46 (Operand.tmp 11), type := 46, pos := "ref.go:69", after := #[{ on := 3, ground := Ground.data }], guard := none }) (v := ?_) rfl (by kernel_rfl) (by kernel_rfl) (by kernel_rfl) (fun _ _ _ h => h) (Or.inl ⟨by rfl, ?_⟩) (by assumption) ?_
    rotate_left 1
    · (intro w hSw; (try dsimp only at hSw); go_simp; (try with_reducible rfl))
    try simp only [Act.put, List.setIfInBounds_toArray, List.set_cons_zero, List.set_cons_succ]
    refine wpAnyH_ready (rs := [2, 6]) (by kernel_rfl) (by simp) ?_
    refine AllReadyH.cons (o := { dst := some 10, op := Op.call { callee := Callee.value (Operand.func 41), args := #[Operand.tmp 8, Operand.tmp 9], argTypes := #[3, 3] }, type := 9, pos := "ref.go:69", after := #[{ on := 0, ground := Ground.data }, { on := 1, ground := Ground.data }], guard := none }) rfl (fun K hK => ?_) (AllReadyH.cons (o := { dst := some 7, op := Op.alloc 56, type := 0, pos := "ref.go:69", after := #[], guard := none }) rfl (fun K hK => ?_) AllReadyH.nil)
    · go_simp
      go_at_call 41
      with_reducible refine (HK.out _).mono ?_
      rintro e w1 ⟨rfl, bb1⟩
      have B1 := Lib.hid (BR.out.trans (bb1.mono BR.out.size))
      have BB := Lib.hid bb1
      clear bb1
      go_wp2_with fail
      refine hK.out _ _ ?_ (fun hHeld => ?_)
      · exact HPr.out _ B1.out
      clear hK K
      try simp only [Act.put, List.setIfInBounds_toArray, List.set_cons_zero, List.set_cons_succ]
      refine wpAnyH_take (i := 5) (oi := { dst := some 13, op := Op.build 56 #[(0, Operand.tmp 10), (1, Operand.tmp 12)], type := 56, pos := "ref.go:69", after := #[{ on := 2, ground := Ground.data }, { on := 4, ground := Ground.data }], guard := none }) (v := ?_) rfl (by kernel_rfl) (by kernel_rfl) (by kernel_rfl) (fun _ _ _ h => h) (Or.inl ⟨by rfl, ?_⟩) (by assumption) ?_
      rotate_left 1
      · (intro w hSw; (try dsimp only at hSw); go_simp; (try with_reducible rfl))
      try simp only [Act.put, List.setIfInBounds_toArray, List.set_cons_zero, List.set_cons_succ]
      refine wpAnyH_ready (rs := [6]) (by kernel_rfl) (by simp) ?_
      refine AllReadyH.cons (o := { dst := some 7, op := Op.alloc 56, type := 0, pos := "ref.go:69", after := #[], guard := none }) rfl (fun K hK => ?_) AllReadyH.nil
      go_simp
      have B2 : Hid (Below W0.heap.size W0 (w1.alloc (.cells #[.string ⟨#[]⟩, .slice none 0 0, .slice none 0 0, .slice none 0 0, .slice none 0 0, .slice none 0 0, .slice none 0 0, .slice none 0 0, .slice none 0 0, .slice none 0 0, .slice none 0 0, .bool false, .bool false, .bool false, .bool false, .bool false] 56))) := B1.out.alloc B1.out.size _
      refine hK.out _ _ ?_ (fun hHeld => ?_)
      · exact HPr.out _ B2.out
      clear hK K
      try simp only [Act.put, List.setIfInBounds_toArray, List.set_cons_zero, List.set_cons_succ]
      refine wpAnyH_ready (rs := [7]) (by kernel_rfl) (by simp) ?_
      refine AllReadyH.cons rfl (fun K hK => ?_) AllReadyH.nil
      refine step_store_row15 rfl 56 _ _ rfl w1.heap.size #[.string C, .slice c.a0 c.n0 c.c0, .slice c.a1 c.n1 c.c1, .slice c.a2 c.n2 c.c2, .slice c.a3 c.n3 c.c3, .slice c.a4 c.n4 c.c4, .slice c.a5 c.n5 c.c5, .slice c.a6 c.n6 c.c6, .slice c.a7 c.n7 c.c7, .slice none 0 0, .slice none 0 0, .bool false, .bool false, .bool false, .bool false, .bool false] rfl rfl 56 #[.string ⟨#[]⟩, .slice none 0 0, .slice none 0 0, .slice none 0 0, .slice none 0 0, .slice none 0 0, .slice none 0 0, .slice none 0 0, .slice none 0 0, .slice none 0 0, .slice none 0 0, .bool false, .bool false, .bool false, .bool false, .bool false] (new_row w1 _ _ rfl) (by exact sizeInit25) (by rfl) (by simp [Value.oneCell']) ?_
      rw [alloc_setRow w1 _ _ _ rfl]
      have B3 : Hid (Below W0.heap.size W0 (w1.alloc (.cells #[.string C, .slice c.a0 c.n0 c.c0, .slice c.a1 c.n1 c.c1, .slice c.a2 c.n2 c.c2, .slice c.a3 c.n3 c.c3, .slice c.a4 c.n4 c.c4, .slice c.a5 c.n5 c.c5, .slice c.a6 c.n6 c.c6, .slice c.a7 c.n7 c.c7, .slice none 0 0, .slice none 0 0, .bool false, .bool false, .bool false, .bool false, .bool false] 56))) := B1.out.alloc B1.out.size _
      refine hK.out _ _ ?_ (fun hHeld => ?_)
      · exact HPr.out _ B3.out
      clear hK K
      try simp only [Act.put, List.setIfInBounds_toArray, List.set_cons_zero, List.set_cons_succ]
      refine wpAnyH_done (by kernel_rfl) ?_ _
      have HG : Hid (Holds (w1.alloc (.cells #[.string C, .slice c.a0 c.n0 c.c0, .slice c.a1 c.n1 c.c1, .slice c.a2 c.n2 c.c2, .slice c.a3 c.n3 c.c3, .slice c.a4 c.n4 c.c4, .slice c.a5 c.n5 c.c5, .slice c.a6 c.n6 c.c6, .slice c.a7 c.n7 c.c7, .slice none 0 0, .slice none 0 0, .bool false, .bool false, .bool false, .bool false, .bool false] 56)) w1.heap.size 56 #[.string C, .slice c.a0 c.n0 c.c0, .slice c.a1 c.n1 c.c1, .slice c.a2 c.n2 c.c2, .slice c.a3 c.n3 c.c3, .slice c.a4 c.n4 c.c4, .slice c.a5 c.n5 c.c5, .slice c.a6 c.n6 c.c6, .slice c.a7 c.n7 c.c7, .slice none 0 0, .slice none 0 0, .bool false, .bool false, .bool false, .bool false, .bool false]) := Lib.hid (Holds.new w1 56 #[.string C, .slice c.a0 c.n0 c.c0, .slice c.a1 c.n1 c.c1, .slice c.a2 c.n2 c.c2, .slice c.a3 c.n3 c.c3, .slice c.a4 c.n4 c.c4, .slice c.a5 c.n5 c.c5, .slice c.a6 c.n6 c.c6, .slice c.a7 c.n7 c.c7, .slice none 0 0, .slice none 0 0, .bool false, .bool false, .bool false, .bool false, .bool false])
      have hgB : W0.heap.size ≤ w1.heap.size := B1.out.size
      have hgn : w.heap.size + 1 ≠ w1.heap.size := by have := HS0.out; omega
      obtain ⟨W, hW⟩ : ∃ W, Hid (W = (w1.alloc (.cells #[.string C, .slice c.a0 c.n0 c.c0, .slice c.a1 c.n1 c.c1, .slice c.a2 c.n2 c.c2, .slice c.a3 c.n3 c.c3, .slice c.a4 c.n4 c.c4, .slice c.a5 c.n5 c.c5, .slice c.a6 c.n6 c.c6, .slice c.a7 c.n7 c.c7, .slice none 0 0, .slice none 0 0, .bool false, .bool false, .bool false, .bool false, .bool false] 56))) := ⟨_, Lib.hid rfl⟩
      rw [← hW.out] at HG B3 ⊢
      have hI3 := Lib.hid ((B3.out.block _ HI.out.lt).trans HI.out)
      obtain ⟨k0, _, _, _, _, _, _, _, _, k18, k19⟩ := HX.out _ B3.out
      clear hHeld HPr
      have y14 : W.cell? ⟨w1.heap.size, 14, none⟩ = some (.bool false) := Holds.cell HG.out 14
      have z14 : W.frozen? ⟨w1.heap.size, 14, none⟩ = false := Holds.frozen HG.out 14
      have g0 : Hid (Holds (W.setCell ⟨w1.heap.size, 14, none⟩ (.bool false)) w1.heap.size 56 #[.string C, .slice c.a0 c.n0 c.c0, .slice c.a1 c.n1 c.c1, .slice c.a2 c.n2 c.c2, .slice c.a3 c.n3 c.c3, .slice c.a4 c.n4 c.c4, .slice c.a5 c.n5 c.c5, .slice c.a6 c.n6 c.c6, .slice c.a7 c.n7 c.c7, .slice none 0 0, .slice none 0 0, .bool false, .bool false, .bool false, .bool false, .bool false]) := Lib.hid (holds_told25 HG.out (by kernel_rfl))
      have t0 : Hid (Holds (W.setCell ⟨w1.heap.size, 14, none⟩ (.bool false)) (w.heap.size + 1) 56 #[.string ⟨#[]⟩, .slice none 0 0, .slice none 0 0, .slice none 0 0, .slice none 0 0, .slice none 0 0, .slice none 0 0, .slice none 0 0, .slice none 0 0, .slice none 0 0, .slice none 0 0, .bool false, .bool false, .bool false, .bool false, .bool false]) := Lib.hid ((heap_setCell_other _ _ _ _ (by show w.heap.size + 1 ≠ w1.heap.size; exact hgn)).trans hI3.out)
      have B4 := Lib.hid (below_setCell25 B3.out (show W0.heap.size ≤ (⟨w1.heap.size, 14, none⟩ : Addr).block from hgB) (.bool false))
      go_wp2_with (first
        | (refine wpList_load_row rfl 56 _ rfl w1.heap.size rfl 56 #[.string C, .slice c.a0 c.n0 c.c0, .slice c.a1 c.n1 c.c1, .slice c.a2 c.n2 c.c2, .slice c.a3 c.n3 c.c3, .slice c.a4 c.n4 c.c4, .slice c.a5 c.n5 c.c5, .slice c.a6 c.n6 c.c6, .slice c.a7 c.n7 c.c7, .slice none 0 0, .slice none 0 0, .bool false, .bool false, .bool false, .bool false, .bool false] (0, 0) _ (by exact g0.out) Tryd.underlying56 rfl (by exact sizeInit25) ?_)
        | (refine wpList_store_row rfl 56 _ _ rfl (w.heap.size + 1) #[.string C, .slice c.a0 c.n0 c.c0, .slice c.a1 c.n1 c.c1, .slice c.a2 c.n2 c.c2, .slice c.a3 c.n3 c.c3, .slice c.a4 c.n4 c.c4, .slice c.a5 c.n5 c.c5, .slice c.a6 c.n6 c.c6, .slice c.a7 c.n7 c.c7, .slice none 0 0, .slice none 0 0, .bool false, .bool false, .bool false, .bool false, .bool false] rfl rfl 56 #[.string ⟨#[]⟩, .slice none 0 0, .slice none 0 0, .slice none 0 0, .slice none 0 0, .slice none 0 0, .slice none 0 0, .slice none 0 0, .slice none 0 0, .slice none 0 0, .slice none 0 0, .bool false, .bool false, .bool false, .bool false, .bool false] (by exact t0.out) (by exact sizeInit25) (by rfl) (by simp [Value.oneCell']) ?_)
        | fail)
      refine bodyPost_ret (results_cell_row rfl _ _ (w.heap.size + 1) _ #[.string C, .slice c.a0 c.n0 c.c0, .slice c.a1 c.n1 c.c1, .slice c.a2 c.n2 c.c2, .slice c.a3 c.n3 c.c3, .slice c.a4 c.n4 c.c4, .slice c.a5 c.n5 c.c5, .slice c.a6 c.n6 c.c6, .slice c.a7 c.n7 c.c7, .slice none 0 0, .slice none 0 0, .bool false, .bool false, .bool false, .bool false, .bool false] (0, 0) _ rfl (setRow_heap _ (w.heap.size + 1) #[.string ⟨#[]⟩, .slice none 0 0, .slice none 0 0, .slice none 0 0, .slice none 0 0, .slice none 0 0, .slice none 0 0, .slice none 0 0, .slice none 0 0, .slice none 0 0, .slice none 0 0, .bool false, .bool false, .bool false, .bool false, .bool false] #[.string C, .slice c.a0 c.n0 c.c0, .slice c.a1 c.n1 c.c1, .slice c.a2 c.n2 c.c2, .slice c.a3 c.n3 c.c3, .slice c.a4 c.n4 c.c4, .slice c.a5 c.n5 c.c5, .slice c.a6 c.n6 c.c6, .slice c.a7 c.n7 c.c7, .slice none 0 0, .slice none 0 0, .bool false, .bool false, .bool false, .bool false, .bool false] 56 (0, 0) (by exact t0.out)) Tryd.underlying56 rfl (by exact sizeInit25)) rfl ?_
      exact ⟨rfl, below_setRow (HB.out.trans (B4.out.mono HB.out.size)) (by omega) _⟩
    · go_simp
      have B2 : Hid (Below W0.heap.size W0 (W0.drew.alloc (.cells #[.string ⟨#[]⟩, .slice none 0 0, .slice none 0 0, .slice none 0 0, .slice none 0 0, .slice none 0 0, .slice none 0 0, .slice none 0 0, .slice none 0 0, .slice none 0 0, .slice none 0 0, .bool false, .bool false, .bool false, .bool false, .bool false] 56))) := BR.out.alloc BR.out.size _
      have HI2 := Lib.hid (Holds.new W0.drew 56 #[.string ⟨#[]⟩, .slice none 0 0, .slice none 0 0, .slice none 0 0, .slice none 0 0, .slice none 0 0, .slice none 0 0, .slice none 0 0, .slice none 0 0, .slice none 0 0, .slice none 0 0, .bool false, .bool false, .bool false, .bool false, .bool false])
      refine hK.out _ _ ?_ (fun hHeld => ?_)
      · exact HPr.out _ B2.out
      clear hK K
      try simp only [Act.put, List.setIfInBounds_toArray, List.set_cons_zero, List.set_cons_succ]
      refine wpAnyH_ready (rs := [2]) (by kernel_rfl) (by simp) ?_
      refine AllReadyH.cons (o := { dst := some 10, op := Op.call { callee := Callee.value (Operand.func 41), args := #[Operand.tmp 8, Operand.tmp 9], argTypes := #[3, 3] }, type := 9, pos := "ref.go:69", after := #[{ on := 0, ground := Ground.data }, { on := 1, ground := Ground.data }], guard := none }) rfl (fun K hK => ?_) AllReadyH.nil
      go_simp
      go_at_call 41
      with_reducible refine (HK.out _).mono ?_
      rintro e w1 ⟨rfl, bb1⟩
      have B1 := Lib.hid (B2.out.trans (bb1.mono B2.out.size))
      have BB := Lib.hid bb1
      clear bb1
      go_wp2_with fail
      refine hK.out _ _ ?_ (fun hHeld => ?_)
      · exact HPr.out _ B1.out
      clear hK K
      try simp only [Act.put, List.setIfInBounds_toArray, List.set_cons_zero, List.set_cons_succ]
      refine wpAnyH_take (i := 5) (oi := { dst := some 13, op := Op.build 56 #[(0, Operand.tmp 10), (1, Operand.tmp 12)], type := 56, pos := "ref.go:69", after := #[{ on := 2, ground := Ground.data }, { on := 4, ground := Ground.data }], guard := none }) (v := ?_) rfl (by kernel_rfl) (by kernel_rfl) (by kernel_rfl) (fun _ _ _ h => h) (Or.inl ⟨by rfl, ?_⟩) (by assumption) ?_
      rotate_left 1
      · (intro w hSw; (try dsimp only at hSw); go_simp; (try with_reducible rfl))
      try simp only [Act.put, List.setIfInBounds_toArray, List.set_cons_zero, List.set_cons_succ]
      refine wpAnyH_ready (rs := [7]) (by kernel_rfl) (by simp) ?_
      refine AllReadyH.cons rfl (fun K hK => ?_) AllReadyH.nil
      refine step_store_row15 rfl 56 _ _ rfl W0.drew.heap.size #[.string C, .slice c.a0 c.n0 c.c0, .slice c.a1 c.n1 c.c1, .slice c.a2 c.n2 c.c2, .slice c.a3 c.n3 c.c3, .slice c.a4 c.n4 c.c4, .slice c.a5 c.n5 c.c5, .slice c.a6 c.n6 c.c6, .slice c.a7 c.n7 c.c7, .slice none 0 0, .slice none 0 0, .bool false, .bool false, .bool false, .bool false, .bool false] rfl rfl 56 #[.string ⟨#[]⟩, .slice none 0 0, .slice none 0 0, .slice none 0 0, .slice none 0 0, .slice none 0 0, .slice none 0 0, .slice none 0 0, .slice none 0 0, .slice none 0 0, .slice none 0 0, .bool false, .bool false, .bool false, .bool false, .bool false] ((BB.out.block _ HI2.out.lt).trans HI2.out) (by exact sizeInit25) (by rfl) (by simp [Value.oneCell']) ?_
      have B3 : Hid (Below W0.heap.size W0 (w1.setRow W0.drew.heap.size #[.string C, .slice c.a0 c.n0 c.c0, .slice c.a1 c.n1 c.c1, .slice c.a2 c.n2 c.c2, .slice c.a3 c.n3 c.c3, .slice c.a4 c.n4 c.c4, .slice c.a5 c.n5 c.c5, .slice c.a6 c.n6 c.c6, .slice c.a7 c.n7 c.c7, .slice none 0 0, .slice none 0 0, .bool false, .bool false, .bool false, .bool false, .bool false])) := Lib.hid (below_setRow (g := W0.drew.heap.size) B1.out (Nat.le_refl _) #[.string C, .slice c.a0 c.n0 c.c0, .slice c.a1 c.n1 c.c1, .slice c.a2 c.n2 c.c2, .slice c.a3 c.n3 c.c3, .slice c.a4 c.n4 c.c4, .slice c.a5 c.n5 c.c5, .slice c.a6 c.n6 c.c6, .slice c.a7 c.n7 c.c7, .slice none 0 0, .slice none 0 0, .bool false, .bool false, .bool false, .bool false, .bool false])
      refine hK.out _ _ ?_ (fun hHeld => ?_)
      · exact HPr.out _ B3.out
      clear hK K
      try simp only [Act.put, List.setIfInBounds_toArray, List.set_cons_zero, List.set_cons_succ]
      refine wpAnyH_done (by kernel_rfl) ?_ _
      have HG : Hid (Holds (w1.setRow W0.drew.heap.size #[.string C, .slice c.a0 c.n0 c.c0, .slice c.a1 c.n1 c.c1, .slice c.a2 c.n2 c.c2, .slice c.a3 c.n3 c.c3, .slice c.a4 c.n4 c.c4, .slice c.a5 c.n5 c.c5, .slice c.a6 c.n6 c.c6, .slice c.a7 c.n7 c.c7, .slice none 0 0, .slice none 0 0, .bool false, .bool false, .bool false, .bool false, .bool false]) W0.heap.size 56 #[.string C, .slice c.a0 c.n0 c.c0, .slice c.a1 c.n1 c.c1, .slice c.a2 c.n2 c.c2, .slice c.a3 c.n3 c.c3, .slice c.a4 c.n4 c.c4, .slice c.a5 c.n5 c.c5, .slice c.a6 c.n6 c.c6, .slice c.a7 c.n7 c.c7, .slice none 0 0, .slice none 0 0, .bool false, .bool false, .bool false, .bool false, .bool false]) := Lib.hid (setRow_heap w1 W0.heap.size #[.string ⟨#[]⟩, .slice none 0 0, .slice none 0 0, .slice none 0 0, .slice none 0 0, .slice none 0 0, .slice none 0 0, .slice none 0 0, .slice none 0 0, .slice none 0 0, .slice none 0 0, .bool false, .bool false, .bool false, .bool false, .bool false] #[.string C, .slice c.a0 c.n0 c.c0, .slice c.a1 c.n1 c.c1, .slice c.a2 c.n2 c.c2, .slice c.a3 c.n3 c.c3, .slice c.a4 c.n4 c.c4, .slice c.a5 c.n5 c.c5, .slice c.a6 c.n6 c.c6, .slice c.a7 c.n7 c.c7, .slice none 0 0, .slice none 0 0, .bool false, .bool false, .bool false, .bool false, .bool false] 56 (0, 0) ((BB.out.block _ HI2.out.lt).trans HI2.out))
      have hgB : W0.heap.size ≤ W0.heap.size := Nat.le_refl _
      have hgn : w.heap.size + 1 ≠ W0.heap.size := by have := HS0.out; omega
      obtain ⟨W, hW⟩ : ∃ W, Hid (W = (w1.setRow W0.drew.heap.size #[.string C, .slice c.a0 c.n0 c.c0, .slice c.a1 c.n1 c.c1, .slice c.a2 c.n2 c.c2, .slice c.a3 c.n3 c.c3, .slice c.a4 c.n4 c.c4, .slice c.a5 c.n5 c.c5, .slice c.a6 c.n6 c.c6, .slice c.a7 c.n7 c.c7, .slice none 0 0, .slice none 0 0, .bool false, .bool false, .bool false, .bool false, .bool false])) := ⟨_, Lib.hid rfl⟩
      rw [← hW.out] at HG B3 ⊢
      have hI3 := Lib.hid ((B3.out.block _ HI.out.lt).trans HI.out)
      obtain ⟨k0, _, _, _, _, _, _, _, _, k18, k19⟩ := HX.out _ B3.out
      clear hHeld HPr
      have y14 : W.cell? ⟨W0.heap.size, 14, none⟩ = some (.bool false) := Holds.cell HG.out 14
      have z14 : W.frozen? ⟨W0.heap.size, 14, none⟩ = false := Holds.frozen HG.out 14
      have g0 : Hid (Holds (W.setCell ⟨W0.heap.size, 14, none⟩ (.bool false)) W0.heap.size 56 #[.string C, .slice c.a0 c.n0 c.c0, .slice c.a1 c.n1 c.c1, .slice c.a2 c.n2 c.c2, .slice c.a3 c.n3 c.c3, .slice c.a4 c.n4 c.c4, .slice c.a5 c.n5 c.c5, .slice c.a6 c.n6 c.c6, .slice c.a7 c.n7 c.c7, .slice none 0 0, .slice none 0 0, .bool false, .bool false, .bool false, .bool false, .bool false]) := Lib.hid (holds_told25 HG.out (by kernel_rfl))
      have t0 : Hid (Holds (W.setCell ⟨W0.heap.size, 14, none⟩ (.bool false)) (w.heap.size + 1) 56 #[.string ⟨#[]⟩, .slice none 0 0, .slice none 0 0, .slice none 0 0, .slice none 0 0, .slice none 0 0, .slice none 0 0, .slice none 0 0, .slice none 0 0, .slice none 0 0, .slice none 0 0, .bool false, .bool false, .bool false, .bool false, .bool false]) := Lib.hid ((heap_setCell_other _ _ _ _ (by show w.heap.size + 1 ≠ W0.heap.size; exact hgn)).trans hI3.out)
      have B4 := Lib.hid (below_setCell25 B3.out (show W0.heap.size ≤ (⟨W0.heap.size, 14, none⟩ : Addr).block from hgB) (.bool false))
      go_wp2_with (first
        | (refine wpList_load_row rfl 56 _ rfl W0.heap.size rfl 56 #[.string C, .slice c.a0 c.n0 c.c0, .slice c.a1 c.n1 c.c1, .slice c.a2 c.n2 c.c2, .slice c.a3 c.n3 c.c3, .slice c.a4 c.n4 c.c4, .slice c.a5 c.n5 c.c5, .slice c.a6 c.n6 c.c6, .slice c.a7 c.n7 c.c7, .slice none 0 0, .slice none 0 0, .bool false, .bool false, .bool false, .bool false, .bool false] (0, 0) _ (by exact g0.out) Tryd.underlying56 rfl (by exact sizeInit25) ?_)
        | (refine wpList_store_row rfl 56 _ _ rfl (w.heap.size + 1) #[.string C, .slice c.a0 c.n0 c.c0, .slice c.a1 c.n1 c.c1, .slice c.a2 c.n2 c.c2, .slice c.a3 c.n3 c.c3, .slice c.a4 c.n4 c.c4, .slice c.a5 c.n5 c.c5, .slice c.a6 c.n6 c.c6, .slice c.a7 c.n7 c.c7, .slice none 0 0, .slice none 0 0, .bool false, .bool false, .bool false, .bool false, .bool false] rfl rfl 56 #[.string ⟨#[]⟩, .slice none 0 0, .slice none 0 0, .slice none 0 0, .slice none 0 0, .slice none 0 0, .slice none 0 0, .slice none 0 0, .slice none 0 0, .slice none 0 0, .slice none 0 0, .bool false, .bool false, .bool false, .bool false, .bool false] (by exact t0.out) (by exact sizeInit25) (by rfl) (by simp [Value.oneCell']) ?_)
        | fail)
      refine bodyPost_ret (results_cell_row rfl _ _ (w.heap.size + 1) _ #[.string C, .slice c.a0 c.n0 c.c0, .slice c.a1 c.n1 c.c1, .slice c.a2 c.n2 c.c2, .slice c.a3 c.n3 c.c3, .slice c.a4 c.n4 c.c4, .slice c.a5 c.n5 c.c5, .slice c.a6 c.n6 c.c6, .slice c.a7 c.n7 c.c7, .slice none 0 0, .slice none 0 0, .bool false, .bool false, .bool false, .bool false, .bool false] (0, 0) _ rfl (setRow_heap _ (w.heap.size + 1) #[.string ⟨#[]⟩, .slice none 0 0, .slice none 0 0, .slice none 0 0, .slice none 0 0, .slice none 0 0, .slice none 0 0, .slice none 0 0, .slice none 0 0, .slice none 0 0, .slice none 0 0, .bool false, .bool false, .bool false, .bool false, .bool false] #[.string C, .slice c.a0 c.n0 c.c0, .slice c.a1 c.n1 c.c1, .slice c.a2 c.n2 c.c2, .slice c.a3 c.n3 c.c3, .slice c.a4 c.n4 c.c4, .slice c.a5 c.n5 c.c5, .slice c.a6 c.n6 c.c6, .slice c.a7 c.n7 c.c7, .slice none 0 0, .slice none 0 0, .bool false, .bool false, .bool false, .bool false, .bool false] 56 (0, 0) (by exact t0.out)) Tryd.underlying56 rfl (by exact sizeInit25)) rfl ?_
      exact ⟨rfl, below_setRow (HB.out.trans (B4.out.mono HB.out.size)) (by omega) _⟩
  · refine wp_region_held_drew (S := fun w' => w'.cell? ⟨w.heap.size, 3, none⟩ = some (.slice c.a0 c.n0 c.c0) ∧ w'.cell? ⟨w.heap.size, 4, none⟩ = some (.slice c.a1 c.n1 c.c1) ∧ w'.cell? ⟨w.heap.size, 5, none⟩ = some (.slice c.a2 c.n2 c.c2) ∧ w'.cell? ⟨w.heap.size, 6, none⟩ = some (.slice c.a3 c.n3 c.c3) ∧ w'.cell? ⟨w.heap.size, 7, none⟩ = some (.slice c.a4 c.n4 c.c4) ∧ w'.cell? ⟨w.heap.size, 8, none⟩ = some (.slice c.a5 c.n5 c.c5) ∧ w'.cell? ⟨w.heap.size, 9, none⟩ = some (.slice c.a6 c.n6 c.c6) ∧ w'.cell? ⟨w.heap.size, 10, none⟩ = some (.slice c.a7 c.n7 c.c7)) (by kernel_rfl) ?_ (fun hHeld => ?_)
    · exact HPr.out _ BR.out
    refine wpAnyH_take (i := 0) (oi := { dst := some 8, op := Op.move (Operand.tmp 1), type := 3, pos := "ref.go:69", after := #[], guard := none }) (v := ?_) rfl (by kernel_rfl) (by kernel_rfl) (by kernel_rfl) (fun _ _ _ h => h) (Or.inl ⟨by rfl, ?_⟩) (by assumption) ?_
    rotate_left 1
    · (intro w hSw; (try dsimp only at hSw); go_simp; (try with_reducible rfl))
    try simp only [Act.put, List.setIfInBounds_toArray, List.set_cons_zero, List.set_cons_succ]
    refine wpAnyH_take (i := 1) (oi := { dst := some 9, op := Op.move (Operand.tmp 2), type := 3, pos := "ref.go:69", after := #[], guard := none }) (v := ?_) rfl (by kernel_rfl) (by kernel_rfl) (by kernel_rfl) (fun _ _ _ h => h) (Or.inl ⟨by rfl, ?_⟩) (by assumption) ?_
    rotate_left 1
    · (intro w hSw; (try dsimp only at hSw); go_simp; (try with_reducible rfl))
    try simp only [Act.put, List.setIfInBounds_toArray, List.set_cons_zero, List.set_cons_succ]
    refine wpAnyH_take (i := 3) (oi := { dst := some 11, op := Op.fieldAddr 51 (Operand.tmp 3) 3, type := 0, pos := "ref.go:69", after := #[], guard := none }) (v := ?_) rfl (by kernel_rfl) (by kernel_rfl) (by kernel_rfl) (fun _ _ _ h => h) (Or.inl ⟨by rfl, ?_⟩) (by assumption) ?_
    rotate_left 1
    · (intro w hSw; (try dsimp only at hSw); go_simp; (try with_reducible rfl))
    try simp only [Act.put, List.setIfInBounds_toArray, List.set_cons_zero, List.set_cons_succ]
    refine wpAnyH_take (i := 4) (oi := { dst := some 12, op := Op.load 46 (Operand.tmp 11), type := 46, pos := "ref.go:69", after := #[{ on := 3, ground := Ground.data }], guard := none }) (v := ?_) rfl (by kernel_rfl) (by kernel_rfl) (by kernel_rfl) (fun _ _ _ h => h) (Or.inl ⟨by rfl, ?_⟩) (by assumption) ?_
    rotate_left 1
    · (intro w hSw; (try dsimp only at hSw); go_simp; (try with_reducible rfl))
    try simp only [Act.put, List.setIfInBounds_toArray, List.set_cons_zero, List.set_cons_succ]
    refine wpAnyH_ready (rs := [2, 6]) (by kernel_rfl) (by simp) ?_
    refine AllReadyH.cons (o := { dst := some 10, op := Op.call { callee := Callee.value (Operand.func 41), args := #[Operand.tmp 8, Operand.tmp 9], argTypes := #[3, 3] }, type := 9, pos := "ref.go:69", after := #[{ on := 0, ground := Ground.data }, { on := 1, ground := Ground.data }], guard := none }) rfl (fun K hK => ?_) (AllReadyH.cons (o := { dst := some 7, op := Op.alloc 56, type := 0, pos := "ref.go:69", after := #[], guard := none }) rfl (fun K hK => ?_) AllReadyH.nil)
    · go_simp
      go_at_call 41
      with_reducible refine (HK.out _).mono ?_
      rintro e w1 ⟨rfl, bb1⟩
      have B1 := Lib.hid (BR.out.trans (bb1.mono BR.out.size))
      have BB := Lib.hid bb1
      clear bb1
      go_wp2_with fail
      refine hK.out _ _ ?_ (fun hHeld => ?_)
      · exact HPr.out _ B1.out
      clear hK K
      try simp only [Act.put, List.setIfInBounds_toArray, List.set_cons_zero, List.set_cons_succ]
      refine wpAnyH_take (i := 5) (oi := { dst := some 13, op := Op.build 56 #[(0, Operand.tmp 10), (1, Operand.tmp 12)], type := 56, pos := "ref.go:69", after := #[{ on := 2, ground := Ground.data }, { on := 4, ground := Ground.data }], guard := none }) (v := ?_) rfl (by kernel_rfl) (by kernel_rfl) (by kernel_rfl) (fun _ _ _ h => h) (Or.inl ⟨by rfl, ?_⟩) (by assumption) ?_
      rotate_left 1
      · (intro w hSw; (try dsimp only at hSw); go_simp; (try with_reducible rfl))
      try simp only [Act.put, List.setIfInBounds_toArray, List.set_cons_zero, List.set_cons_succ]
      refine wpAnyH_ready (rs := [6]) (by kernel_rfl) (by simp) ?_
      refine AllReadyH.cons (o := { dst := some 7, op := Op.alloc 56, type := 0, pos := "ref.go:69", after := #[], guard := none }) rfl (fun K hK => ?_) AllReadyH.nil
      go_simp
      have B2 : Hid (Below W0.heap.size W0 (w1.alloc (.cells #[.string ⟨#[]⟩, .slice none 0 0, .slice none 0 0, .slice none 0 0, .slice none 0 0, .slice none 0 0, .slice none 0 0, .slice none 0 0, .slice none 0 0, .slice none 0 0, .slice none 0 0, .bool false, .bool false, .bool false, .bool false, .bool false] 56))) := B1.out.alloc B1.out.size _
      refine hK.out _ _ ?_ (fun hHeld => ?_)
      · exact HPr.out _ B2.out
      clear hK K
      try simp only [Act.put, List.setIfInBounds_toArray, List.set_cons_zero, List.set_cons_succ]
      refine wpAnyH_ready (rs := [7]) (by kernel_rfl) (by simp) ?_
      refine AllReadyH.cons rfl (fun K hK => ?_) AllReadyH.nil
      refine step_store_row15 rfl 56 _ _ rfl w1.heap.size #[.string C, .slice c.a0 c.n0 c.c0, .slice c.a1 c.n1 c.c1, .slice c.a2 c.n2 c.c2, .slice c.a3 c.n3 c.c3, .slice c.a4 c.n4 c.c4, .slice c.a5 c.n5 c.c5, .slice c.a6 c.n6 c.c6, .slice c.a7 c.n7 c.c7, .slice none 0 0, .slice none 0 0, .bool false, .bool false, .bool false, .bool false, .bool false] rfl rfl 56 #[.string ⟨#[]⟩, .slice none 0 0, .slice none 0 0, .slice none 0 0, .slice none 0 0, .slice none 0 0, .slice none 0 0, .slice none 0 0, .slice none 0 0, .slice none 0 0, .slice none 0 0, .bool false, .bool false, .bool false, .bool false, .bool false] (new_row w1 _ _ rfl) (by exact sizeInit25) (by rfl) (by simp [Value.oneCell']) ?_
      rw [alloc_setRow w1 _ _ _ rfl]
      have B3 : Hid (Below W0.heap.size W0 (w1.alloc (.cells #[.string C, .slice c.a0 c.n0 c.c0, .slice c.a1 c.n1 c.c1, .slice c.a2 c.n2 c.c2, .slice c.a3 c.n3 c.c3, .slice c.a4 c.n4 c.c4, .slice c.a5 c.n5 c.c5, .slice c.a6 c.n6 c.c6, .slice c.a7 c.n7 c.c7, .slice none 0 0, .slice none 0 0, .bool false, .bool false, .bool false, .bool false, .bool false] 56))) := B1.out.alloc B1.out.size _
      refine hK.out _ _ ?_ (fun hHeld => ?_)
      · exact HPr.out _ B3.out
      clear hK K
      try simp only [Act.put, List.setIfInBounds_toArray, List.set_cons_zero, List.set_cons_succ]
      refine wpAnyH_done (by kernel_rfl) ?_ _
      have HG : Hid (Holds (w1.alloc (.cells #[.string C, .slice c.a0 c.n0 c.c0, .slice c.a1 c.n1 c.c1, .slice c.a2 c.n2 c.c2, .slice c.a3 c.n3 c.c3, .slice c.a4 c.n4 c.c4, .slice c.a5 c.n5 c.c5, .slice c.a6 c.n6 c.c6, .slice c.a7 c.n7 c.c7, .slice none 0 0, .slice none 0 0, .bool false, .bool false, .bool false, .bool false, .bool false] 56)) w1.heap.size 56 #[.string C, .slice c.a0 c.n0 c.c0, .slice c.a1 c.n1 c.c1, .slice c.a2 c.n2 c.c2, .slice c.a3 c.n3 c.c3, .slice c.a4 c.n4 c.c4, .slice c.a5 c.n5 c.c5, .slice c.a6 c.n6 c.c6, .slice c.a7 c.n7 c.c7, .slice none 0 0, .slice none 0 0, .bool false, .bool false, .bool false, .bool false, .bool false]) := Lib.hid (Holds.new w1 56 #[.string C, .slice c.a0 c.n0 c.c0, .slice c.a1 c.n1 c.c1, .slice c.a2 c.n2 c.c2, .slice c.a3 c.n3 c.c3, .slice c.a4 c.n4 c.c4, .slice c.a5 c.n5 c.c5, .slice c.a6 c.n6 c.c6, .slice c.a7 c.n7 c.c7, .slice none 0 0, .slice none 0 0, .bool false, .bool false, .bool false, .bool false, .bool false])
      have hgB : W0.heap.size ≤ w1.heap.size := B1.out.size
      have hgn : w.heap.size + 1 ≠ w1.heap.size := by have := HS0.out; omega
      obtain ⟨W, hW⟩ : ∃ W, Hid (W = (w1.alloc (.cells #[.string C, .slice c.a0 c.n0 c.c0, .slice c.a1 c.n1 c.c1, .slice c.a2 c.n2 c.c2, .slice c.a3 c.n3 c.c3, .slice c.a4 c.n4 c.c4, .slice c.a5 c.n5 c.c5, .slice c.a6 c.n6 c.c6, .slice c.a7 c.n7 c.c7, .slice none 0 0, .slice none 0 0, .bool false, .bool false, .bool false, .bool false, .bool false] 56))) := ⟨_, Lib.hid rfl⟩
      rw [← hW.out] at HG B3 ⊢
      have hI3 := Lib.hid ((B3.out.block _ HI.out.lt).trans HI.out)
      obtain ⟨k0, _, _, _, _, _, _, _, _, k18, k19⟩ := HX.out _ B3.out
      clear hHeld HPr
      have y14 : W.cell? ⟨w1.heap.size, 14, none⟩ = some (.bool false) := Holds.cell HG.out 14
      have z14 : W.frozen? ⟨w1.heap.size, 14, none⟩ = false := Holds.frozen HG.out 14
      have g0 : Hid (Holds (W.setCell ⟨w1.heap.size, 14, none⟩ (.bool false)) w1.heap.size 56 #[.string C, .slice c.a0 c.n0 c.c0, .slice c.a1 c.n1 c.c1, .slice c.a2 c.n2 c.c2, .slice c.a3 c.n3 c.c3, .slice c.a4 c.n4 c.c4, .slice c.a5 c.n5 c.c5, .slice c.a6 c.n6 c.c6, .slice c.a7 c.n7 c.c7, .slice none 0 0, .slice none 0 0, .bool false, .bool false, .bool false, .bool false, .bool false]) := Lib.hid (holds_told25 HG.out (by kernel_rfl))
      have t0 : Hid (Holds (W.setCell ⟨w1.heap.size, 14, none⟩ (.bool false)) (w.heap.size + 1) 56 #[.string ⟨#[]⟩, .slice none 0 0, .slice none 0 0, .slice none 0 0, .slice none 0 0, .slice none 0 0, .slice none 0 0, .slice none 0 0, .slice none 0 0, .slice none 0 0, .slice none 0 0, .bool false, .bool false, .bool false, .bool false, .bool false]) := Lib.hid ((heap_setCell_other _ _ _ _ (by show w.heap.size + 1 ≠ w1.heap.size; exact hgn)).trans hI3.out)
      have B4 := Lib.hid (below_setCell25 B3.out (show W0.heap.size ≤ (⟨w1.heap.size, 14, none⟩ : Addr).block from hgB) (.bool false))
      go_wp2_with (first
        | (refine wpList_load_row rfl 56 _ rfl w1.heap.size rfl 56 #[.string C, .slice c.a0 c.n0 c.c0, .slice c.a1 c.n1 c.c1, .slice c.a2 c.n2 c.c2, .slice c.a3 c.n3 c.c3, .slice c.a4 c.n4 c.c4, .slice c.a5 c.n5 c.c5, .slice c.a6 c.n6 c.c6, .slice c.a7 c.n7 c.c7, .slice none 0 0, .slice none 0 0, .bool false, .bool false, .bool false, .bool false, .bool false] (0, 0) _ (by exact g0.out) Tryd.underlying56 rfl (by exact sizeInit25) ?_)
        | (refine wpList_store_row rfl 56 _ _ rfl (w.heap.size + 1) #[.string C, .slice c.a0 c.n0 c.c0, .slice c.a1 c.n1 c.c1, .slice c.a2 c.n2 c.c2, .slice c.a3 c.n3 c.c3, .slice c.a4 c.n4 c.c4, .slice c.a5 c.n5 c.c5, .slice c.a6 c.n6 c.c6, .slice c.a7 c.n7 c.c7, .slice none 0 0, .slice none 0 0, .bool false, .bool false, .bool false, .bool false, .bool false] rfl rfl 56 #[.string ⟨#[]⟩, .slice none 0 0, .slice none 0 0, .slice none 0 0, .slice none 0 0, .slice none 0 0, .slice none 0 0, .slice none 0 0, .slice none 0 0, .slice none 0 0, .slice none 0 0, .bool false, .bool false, .bool false, .bool false, .bool false] (by exact t0.out) (by exact sizeInit25) (by rfl) (by simp [Value.oneCell']) ?_)
        | fail)
      refine bodyPost_ret (results_cell_row rfl _ _ (w.heap.size + 1) _ #[.string C, .slice c.a0 c.n0 c.c0, .slice c.a1 c.n1 c.c1, .slice c.a2 c.n2 c.c2, .slice c.a3 c.n3 c.c3, .slice c.a4 c.n4 c.c4, .slice c.a5 c.n5 c.c5, .slice c.a6 c.n6 c.c6, .slice c.a7 c.n7 c.c7, .slice none 0 0, .slice none 0 0, .bool false, .bool false, .bool false, .bool false, .bool false] (0, 0) _ rfl (setRow_heap _ (w.heap.size + 1) #[.string ⟨#[]⟩, .slice none 0 0, .slice none 0 0, .slice none 0 0, .slice none 0 0, .slice none 0 0, .slice none 0 0, .slice none 0 0, .slice none 0 0, .slice none 0 0, .slice none 0 0, .bool false, .bool false, .bool false, .bool false, .bool false] #[.string C, .slice c.a0 c.n0 c.c0, .slice c.a1 c.n1 c.c1, .slice c.a2 c.n2 c.c2, .slice c.a3 c.n3 c.c3, .slice c.a4 c.n4 c.c4, .slice c.a5 c.n5 c.c5, .slice c.a6 c.n6 c.c6, .slice c.a7 c.n7 c.c7, .slice none 0 0, .slice none 0 0, .bool false, .bool false, .bool false, .bool false, .bool false] 56 (0, 0) (by exact t0.out)) Tryd.underlying56 rfl (by exact sizeInit25)) rfl ?_
      exact ⟨rfl, below_setRow (HB.out.trans (B4.out.mono HB.out.size)) (by omega) _⟩
    · go_simp
      have B2 : Hid (Below W0.heap.size W0 (W0.drew.alloc (.cells #[.string ⟨#[]⟩, .slice none 0 0, .slice none 0 0, .slice none 0 0, .slice none 0 0, .slice none 0 0, .slice none 0 0, .slice none 0 0, .slice none 0 0, .slice none 0 0, .slice none 0 0, .bool false, .bool false, .bool false, .bool false, .bool false] 56))) := BR.out.alloc BR.out.size _
      have HI2 := Lib.hid (Holds.new W0.drew 56 #[.string ⟨#[]⟩, .slice none 0 0, .slice none 0 0, .slice none 0 0, .slice none 0 0, .slice none 0 0, .slice none 0 0, .slice none 0 0, .slice none 0 0, .slice none 0 0, .slice none 0 0, .bool false, .bool false, .bool false, .bool false, .bool false])
      refine hK.out _ _ ?_ (fun hHeld => ?_)
      · exact HPr.out _ B2.out
      clear hK K
      try simp only [Act.put, List.setIfInBounds_toArray, List.set_cons_zero, List.set_cons_succ]
      refine wpAnyH_ready (rs := [2]) (by kernel_rfl) (by simp) ?_
      refine AllReadyH.cons (o := { dst := some 10, op := Op.call { callee := Callee.value (Operand.func 41), args := #[Operand.tmp 8, Operand.tmp 9], argTypes := #[3, 3] }, type := 9, pos := "ref.go:69", after := #[{ on := 0, ground := Ground.data }, { on := 1, ground := Ground.data }], guard := none }) rfl (fun K hK => ?_) AllReadyH.nil
      go_simp
      go_at_call 41
      with_reducible refine (HK.out _).mono ?_
      rintro e w1 ⟨rfl, bb1⟩
      have B1 := Lib.hid (B2.out.trans (bb1.mono B2.out.size))
      have BB := Lib.hid bb1
      clear bb1
      go_wp2_with fail
      refine hK.out _ _ ?_ (fun hHeld => ?_)
      · exact HPr.out _ B1.out
      clear hK K
      try simp only [Act.put, List.setIfInBounds_toArray, List.set_cons_zero, List.set_cons_succ]
      refine wpAnyH_take (i := 5) (oi := { dst := some 13, op := Op.build 56 #[(0, Operand.tmp 10), (1, Operand.tmp 12)], type := 56, pos := "ref.go:69", after := #[{ on := 2, ground := Ground.data }, { on := 4, ground := Ground.data }], guard := none }) (v := ?_) rfl (by kernel_rfl) (by kernel_rfl) (by kernel_rfl) (fun _ _ _ h => h) (Or.inl ⟨by rfl, ?_⟩) (by assumption) ?_
      rotate_left 1
      · (intro w hSw; (try dsimp only at hSw); go_simp; (try with_reducible rfl))
      try simp only [Act.put, List.setIfInBounds_toArray, List.set_cons_zero, List.set_cons_succ]
      refine wpAnyH_ready (rs := [7]) (by kernel_rfl) (by simp) ?_
      refine AllReadyH.cons rfl (fun K hK => ?_) AllReadyH.nil
      refine step_store_row15 rfl 56 _ _ rfl W0.drew.heap.size #[.string C, .slice c.a0 c.n0 c.c0, .slice c.a1 c.n1 c.c1, .slice c.a2 c.n2 c.c2, .slice c.a3 c.n3 c.c3, .slice c.a4 c.n4 c.c4, .slice c.a5 c.n5 c.c5, .slice c.a6 c.n6 c.c6, .slice c.a7 c.n7 c.c7, .slice none 0 0, .slice none 0 0, .bool false, .bool false, .bool false, .bool false, .bool false] rfl rfl 56 #[.string ⟨#[]⟩, .slice none 0 0, .slice none 0 0, .slice none 0 0, .slice none 0 0, .slice none 0 0, .slice none 0 0, .slice none 0 0, .slice none 0 0, .slice none 0 0, .slice none 0 0, .bool false, .bool false, .bool false, .bool false, .bool false] ((BB.out.block _ HI2.out.lt).trans HI2.out) (by exact sizeInit25) (by rfl) (by simp [Value.oneCell']) ?_
      have B3 : Hid (Below W0.heap.size W0 (w1.setRow W0.drew.heap.size #[.string C, .slice c.a0 c.n0 c.c0, .slice c.a1 c.n1 c.c1, .slice c.a2 c.n2 c.c2, .slice c.a3 c.n3 c.c3, .slice c.a4 c.n4 c.c4, .slice c.a5 c.n5 c.c5, .slice c.a6 c.n6 c.c6, .slice c.a7 c.n7 c.c7, .slice none 0 0, .slice none 0 0, .bool false, .bool false, .bool false, .bool false, .bool false])) := Lib.hid (below_setRow (g := W0.drew.heap.size) B1.out (Nat.le_refl _) #[.string C, .slice c.a0 c.n0 c.c0, .slice c.a1 c.n1 c.c1, .slice c.a2 c.n2 c.c2, .slice c.a3 c.n3 c.c3, .slice c.a4 c.n4 c.c4, .slice c.a5 c.n5 c.c5, .slice c.a6 c.n6 c.c6, .slice c.a7 c.n7 c.c7, .slice none 0 0, .slice none 0 0, .bool false, .bool false, .bool false, .bool false, .bool false])
      refine hK.out _ _ ?_ (fun hHeld => ?_)
      · exact HPr.out _ B3.out
      clear hK K
      try simp only [Act.put, List.setIfInBounds_toArray, List.set_cons_zero, List.set_cons_succ]
      refine wpAnyH_done (by kernel_rfl) ?_ _
      have HG : Hid (Holds (w1.setRow W0.drew.heap.size #[.string C, .slice c.a0 c.n0 c.c0, .slice c.a1 c.n1 c.c1, .slice c.a2 c.n2 c.c2, .slice c.a3 c.n3 c.c3, .slice c.a4 c.n4 c.c4, .slice c.a5 c.n5 c.c5, .slice c.a6 c.n6 c.c6, .slice c.a7 c.n7 c.c7, .slice none 0 0, .slice none 0 0, .bool false, .bool false, .bool false, .bool false, .bool false]) W0.heap.size 56 #[.string C, .slice c.a0 c.n0 c.c0, .slice c.a1 c.n1 c.c1, .slice c.a2 c.n2 c.c2, .slice c.a3 c.n3 c.c3, .slice c.a4 c.n4 c.c4, .slice c.a5 c.n5 c.c5, .slice c.a6 c.n6 c.c6, .slice c.a7 c.n7 c.c7, .slice none 0 0, .slice none 0 0, .bool false, .bool false, .bool false, .bool false, .bool false]) := Lib.hid (setRow_heap w1 W0.heap.size #[.string ⟨#[]⟩, .slice none 0 0, .slice none 0 0, .slice none 0 0, .slice none 0 0, .slice none 0 0, .slice none 0 0, .slice none 0 0, .slice none 0 0, .slice none 0 0, .slice none 0 0, .bool false, .bool false, .bool false, .bool false, .bool false] #[.string C, .slice c.a0 c.n0 c.c0, .slice c.a1 c.n1 c.c1, .slice c.a2 c.n2 c.c2, .slice c.a3 c.n3 c.c3, .slice c.a4 c.n4 c.c4, .slice c.a5 c.n5 c.c5, .slice c.a6 c.n6 c.c6, .slice c.a7 c.n7 c.c7, .slice none 0 0, .slice none 0 0, .bool false, .bool false, .bool false, .bool false, .bool false] 56 (0, 0) ((BB.out.block _ HI2.out.lt).trans HI2.out))
      have hgB : W0.heap.size ≤ W0.heap.size := Nat.le_refl _
      have hgn : w.heap.size + 1 ≠ W0.heap.size := by have := HS0.out; omega
      obtain ⟨W, hW⟩ : ∃ W, Hid (W = (w1.setRow W0.drew.heap.size #[.string C, .slice c.a0 c.n0 c.c0, .slice c.a1 c.n1 c.c1, .slice c.a2 c.n2 c.c2, .slice c.a3 c.n3 c.c3, .slice c.a4 c.n4 c.c4, .slice c.a5 c.n5 c.c5, .slice c.a6 c.n6 c.c6, .slice c.a7 c.n7 c.c7, .slice none 0 0, .slice none 0 0, .bool false, .bool false, .bool false, .bool false, .bool false])) := ⟨_, Lib.hid rfl⟩
      rw [← hW.out] at HG B3 ⊢
      have hI3 := Lib.hid ((B3.out.block _ HI.out.lt).trans HI.out)
      obtain ⟨k0, _, _, _, _, _, _, _, _, k18, k19⟩ := HX.out _ B3.out
      clear hHeld HPr
      have y14 : W.cell? ⟨W0.heap.size, 14, none⟩ = some (.bool false) := Holds.cell HG.out 14
      have z14 : W.frozen? ⟨W0.heap.size, 14, none⟩ = false := Holds.frozen HG.out 14
      have g0 : Hid (Holds (W.setCell ⟨W0.heap.size, 14, none⟩ (.bool false)) W0.heap.size 56 #[.string C, .slice c.a0 c.n0 c.c0, .slice c.a1 c.n1 c.c1, .slice c.a2 c.n2 c.c2, .slice c.a3 c.n3 c.c3, .slice c.a4 c.n4 c.c4, .slice c.a5 c.n5 c.c5, .slice c.a6 c.n6 c.c6, .slice c.a7 c.n7 c.c7, .slice none 0 0, .slice none 0 0, .bool false, .bool false, .bool false, .bool false, .bool false]) := Lib.hid (holds_told25 HG.out (by kernel_rfl))
      have t0 : Hid (Holds (W.setCell ⟨W0.heap.size, 14, none⟩ (.bool false)) (w.heap.size + 1) 56 #[.string ⟨#[]⟩, .slice none 0 0, .slice none 0 0, .slice none 0 0, .slice none 0 0, .slice none 0 0, .slice none 0 0, .slice none 0 0, .slice none 0 0, .slice none 0 0, .slice none 0 0, .bool false, .bool false, .bool false, .bool false, .bool false]) := Lib.hid ((heap_setCell_other _ _ _ _ (by show w.heap.size + 1 ≠ W0.heap.size; exact hgn)).trans hI3.out)
      have B4 := Lib.hid (below_setCell25 B3.out (show W0.heap.size ≤ (⟨W0.heap.size, 14, none⟩ : Addr).block from hgB) (.bool false))
      go_wp2_with (first
        | (refine wpList_load_row rfl 56 _ rfl W0.heap.size rfl 56 #[.string C, .slice c.a0 c.n0 c.c0, .slice c.a1 c.n1 c.c1, .slice c.a2 c.n2 c.c2, .slice c.a3 c.n3 c.c3, .slice c.a4 c.n4 c.c4, .slice c.a5 c.n5 c.c5, .slice c.a6 c.n6 c.c6, .slice c.a7 c.n7 c.c7, .slice none 0 0, .slice none 0 0, .bool false, .bool false, .bool false, .bool false, .bool false] (0, 0) _ (by exact g0.out) Tryd.underlying56 rfl (by exact sizeInit25) ?_)
        | (refine wpList_store_row rfl 56 _ _ rfl (w.heap.size + 1) #[.string C, .slice c.a0 c.n0 c.c0, .slice c.a1 c.n1 c.c1, .slice c.a2 c.n2 c.c2, .slice c.a3 c.n3 c.c3, .slice c.a4 c.n4 c.c4, .slice c.a5 c.n5 c.c5, .slice c.a6 c.n6 c.c6, .slice c.a7 c.n7 c.c7, .slice none 0 0, .slice none 0 0, .bool false, .bool false, .bool false, .bool false, .bool false] rfl rfl 56 #[.string ⟨#[]⟩, .slice none 0 0, .slice none 0 0, .slice none 0 0, .slice none 0 0, .slice none 0 0, .slice none 0 0, .slice none 0 0, .slice none 0 0, .slice none 0 0, .slice none 0 0, .bool false, .bool false, .bool false, .bool false, .bool false] (by exact t0.out) (by exact sizeInit25) (by rfl) (by simp [Value.oneCell']) ?_)
        | fail)
      refine bodyPost_ret (results_cell_row rfl _ _ (w.heap.size + 1) _ #[.string C, .slice c.a0 c.n0 c.c0, .slice c.a1 c.n1 c.c1, .slice c.a2 c.n2 c.c2, .slice c.a3 c.n3 c.c3, .slice c.a4 c.n4 c.c4, .slice c.a5 c.n5 c.c5, .slice c.a6 c.n6 c.c6, .slice c.a7 c.n7 c.c7, .slice none 0 0, .slice none 0 0, .bool false, .bool false, .bool false, .bool false, .bool false] (0, 0) _ rfl (setRow_heap _ (w.heap.size + 1) #[.string ⟨#[]⟩, .slice none 0 0, .slice none 0 0, .slice none 0 0, .slice none 0 0, .slice none 0 0, .slice none 0 0, .slice none 0 0, .slice none 0 0, .slice none 0 0, .slice none 0 0, .bool false, .bool false, .bool false, .bool false, .bool false] #[.string C, .slice c.a0 c.n0 c.c0, .slice c.a1 c.n1 c.c1, .slice c.a2 c.n2 c.c2, .slice c.a3 c.n3 c.c3, .slice c.a4 c.n4 c.c4, .slice c.a5 c.n5 c.c5, .slice c.a6 c.n6 c.c6, .slice c.a7 c.n7 c.c7, .slice none 0 0, .slice none 0 0, .bool false, .bool false, .bool false, .bool false, .bool false] 56 (0, 0) (by exact t0.out)) Tryd.underlying56 rfl (by exact sizeInit25)) rfl ?_
      exact ⟨rfl, below_setRow (HB.out.trans (B4.out.mono HB.out.size)) (by omega) _⟩
  · refine wp_region_held_drew (S := fun w' => w'.cell? ⟨w.heap.size, 3, none⟩ = some (.slice c.a0 c.n0 c.c0) ∧ w'.cell? ⟨w.heap.size, 4, none⟩ = some (.slice c.a1 c.n1 c.c1) ∧ w'.cell? ⟨w.heap.size, 5, none⟩ = some (.slice c.a2 c.n2 c.c2) ∧ w'.cell? ⟨w.heap.size, 6, none⟩ = some (.slice c.a3 c.n3 c.c3) ∧ w'.cell? ⟨w.heap.size, 7, none⟩ = some (.slice c.a4 c.n4 c.c4) ∧ w'.cell? ⟨w.heap.size, 8, none⟩ = some (.slice c.a5 c.n5 c.c5) ∧ w'.cell? ⟨w.heap.size, 9, none⟩ = some (.slice c.a6 c.n6 c.c6) ∧ w'.cell? ⟨w.heap.size, 10, none⟩ = some (.slice c.a7 c.n7 c.c7)) (by kernel_rfl) ?_ (fun hHeld => ?_)
    · exact HPr.out _ BR.out
    refine wpAnyH_take (i := 0) (oi := { dst := some 8, op := Op.move (Operand.tmp 1), type := 3, pos := "ref.go:69", after := #[], guard := none }) (v := ?_) rfl (by kernel_rfl) (by kernel_rfl) (by kernel_rfl) (fun _ _ _ h => h) (Or.inl ⟨by rfl, ?_⟩) (by assumption) ?_
    rotate_left 1
    · (intro w hSw; (try dsimp only at hSw); go_simp; (try with_reducible rfl))
    try simp only [Act.put, List.setIfInBounds_toArray, List.set_cons_zero, List.set_cons_succ]
    refine wpAnyH_take (i := 1) (oi := { dst := some 9, op := Op.move (Operand.tmp 2), type := 3, pos := "ref.go:69", after := #[], guard := none }) (v := ?_) rfl (by kernel_rfl) (by kernel_rfl) (by kernel_rfl) (fun _ _ _ h => h) (Or.inl ⟨by rfl, ?_⟩) (by assumption) ?_
    rotate_left 1
    · (intro w hSw; (try dsimp only at hSw); go_simp; (try with_reducible rfl))
    try simp only [Act.put, List.setIfInBounds_toArray, List.set_cons_zero, List.set_cons_succ]
    refine wpAnyH_take (i := 3) (oi := { dst := some 11, op := Op.fieldAddr 51 (Operand.tmp 3) 3, type := 0, pos := "ref.go:69", after := #[], guard := none }) (v := ?_) rfl (by kernel_rfl) (by kernel_rfl) (by kernel_rfl) (fun _ _ _ h => h) (Or.inl ⟨by rfl, ?_⟩) (by assumption) ?_
    rotate_left 1
    · (intro w hSw; (try dsimp only at hSw); go_simp; (try with_reducible rfl))
    try simp only [Act.put, List.setIfInBounds_toArray, List.set_cons_zero, List.set_cons_succ]
    refine wpAnyH_take (i := 4) (oi := { dst := some 12, op := Op.load 46 (Operand.tmp 11), type := 46, pos := "ref.go:69", after := #[{ on := 3, ground := Ground.data }], guard := none }) (v := ?_) rfl (by kernel_rfl) (by kernel_rfl) (by kernel_rfl) (fun _ _ _ h => h) (Or.inl ⟨by rfl, ?_⟩) (by assumption) ?_
    rotate_left 1
    · (intro w hSw; (try dsimp only at hSw); go_simp; (try with_reducible rfl))
    try simp only [Act.put, List.setIfInBounds_toArray, List.set_cons_zero, List.set_cons_succ]
    refine wpAnyH_ready (rs := [2, 6]) (by kernel_rfl) (by simp) ?_
    refine AllReadyH.cons (o := { dst := some 10, op := Op.call { callee := Callee.value (Operand.func 41), args := #[Operand.tmp 8, Operand.tmp 9], argTypes := #[3, 3] }, type := 9, pos := "ref.go:69", after := #[{ on := 0, ground := Ground.data }, { on := 1, ground := Ground.data }], guard := none }) rfl (fun K hK => ?_) (AllReadyH.cons (o := { dst := some 7, op := Op.alloc 56, type := 0, pos := "ref.go:69", after := #[], guard := none }) rfl (fun K hK => ?_) AllReadyH.nil)
    · go_simp
      go_at_call 41
      with_reducible refine (HK.out _).mono ?_
      rintro e w1 ⟨rfl, bb1⟩
      have B1 := Lib.hid (BR.out.trans (bb1.mono BR.out.size))
      have BB := Lib.hid bb1
      clear bb1
      go_wp2_with fail
      refine hK.out _ _ ?_ (fun hHeld => ?_)
      · exact HPr.out _ B1.out
      clear hK K
      try simp only [Act.put, List.setIfInBounds_toArray, List.set_cons_zero, List.set_cons_succ]
      refine wpAnyH_take (i := 5) (oi := { dst := some 13, op := Op.build 56 #[(0, Operand.tmp 10), (1, Operand.tmp 12)], type := 56, pos := "ref.go:69", after := #[{ on := 2, ground := Ground.data }, { on := 4, ground := Ground.data }], guard := none }) (v := ?_) rfl (by kernel_rfl) (by kernel_rfl) (by kernel_rfl) (fun _ _ _ h => h) (Or.inl ⟨by rfl, ?_⟩) (by assumption) ?_
      rotate_left 1
      · (intro w hSw; (try dsimp only at hSw); go_simp; (try with_reducible rfl))
      try simp only [Act.put, List.setIfInBounds_toArray, List.set_cons_zero, List.set_cons_succ]
      refine wpAnyH_ready (rs := [6]) (by kernel_rfl) (by simp) ?_
      refine AllReadyH.cons (o := { dst := some 7, op := Op.alloc 56, type := 0, pos := "ref.go:69", after := #[], guard := none }) rfl (fun K hK => ?_) AllReadyH.nil
      go_simp
      have B2 : Hid (Below W0.heap.size W0 (w1.alloc (.cells #[.string ⟨#[]⟩, .slice none 0 0, .slice none 0 0, .slice none 0 0, .slice none 0 0, .slice none 0 0, .slice none 0 0, .slice none 0 0, .slice none 0 0, .slice none 0 0, .slice none 0 0, .bool false, .bool false, .bool false, .bool false, .bool false] 56))) := B1.out.alloc B1.out.size _
      refine hK.out _ _ ?_ (fun hHeld => ?_)
      · exact HPr.out _ B2.out
      clear hK K
      try simp only [Act.put, List.setIfInBounds_toArray, List.set_cons_zero, List.set_cons_succ]
      refine wpAnyH_ready (rs := [7]) (by kernel_rfl) (by simp) ?_
      refine AllReadyH.cons rfl (fun K hK => ?_) AllReadyH.nil
      refine step_store_row15 rfl 56 _ _ rfl w1.heap.size #[.string C, .slice c.a0 c.n0 c.c0, .slice c.a1 c.n1 c.c1, .slice c.a2 c.n2 c.c2, .slice c.a3 c.n3 c.c3, .slice c.a4 c.n4 c.c4, .slice c.a5 c.n5 c.c5, .slice c.a6 c.n6 c.c6, .slice c.a7 c.n7 c.c7, .slice none 0 0, .slice none 0 0, .bool false, .bool false, .bool false, .bool false, .bool false] rfl rfl 56 #[.string ⟨#[]⟩, .slice none 0 0, .slice none 0 0, .slice none 0 0, .slice none 0 0, .slice none 0 0, .slice none 0 0, .slice none 0 0, .slice none 0 0, .slice none 0 0, .slice none 0 0, .bool false, .bool false, .bool false, .bool false, .bool false] (new_row w1 _ _ rfl) (by exact sizeInit25) (by rfl) (by simp [Value.oneCell']) ?_
      rw [alloc_setRow w1 _ _ _ rfl]
      have B3 : Hid (Below W0.heap.size W0 (w1.alloc (.cells #[.string C, .slice c.a0 c.n0 c.c0, .slice c.a1 c.n1 c.c1, .slice c.a2 c.n2 c.c2, .slice c.a3 c.n3 c.c3, .slice c.a4 c.n4 c.c4, .slice c.a5 c.n5 c.c5, .slice c.a6 c.n6 c.c6, .slice c.a7 c.n7 c.c7, .slice none 0 0, .slice none 0 0, .bool false, .bool false, .bool false, .bool false, .bool false] 56))) := B1.out.alloc B1.out.size _
      refine hK.out _ _ ?_ (fun hHeld => ?_)
      · exact HPr.out _ B3.out
      clear hK K
      try simp only [Act.put, List.setIfInBounds_toArray, List.set_cons_zero, List.set_cons_succ]
      refine wpAnyH_done (by kernel_rfl) ?_ _
      have HG : Hid (Holds (w1.alloc (.cells #[.string C, .slice c.a0 c.n0 c.c0, .slice c.a1 c.n1 c.c1, .slice c.a2 c.n2 c.c2, .slice c.a3 c.n3 c.c3, .slice c.a4 c.n4 c.c4, .slice c.a5 c.n5 c.c5, .slice c.a6 c.n6 c.c6, .slice c.a7 c.n7 c.c7, .slice none 0 0, .slice none 0 0, .bool false, .bool false, .bool false, .bool false, .bool false] 56)) w1.heap.size 56 #[.string C, .slice c.a0 c.n0 c.c0, .slice c.a1 c.n1 c.c1, .slice c.a2 c.n2 c.c2, .slice c.a3 c.n3 c.c3, .slice c.a4 c.n4 c.c4, .slice c.a5 c.n5 c.c5, .slice c.a6 c.n6 c.c6, .slice c.a7 c.n7 c.c7, .slice none 0 0, .slice none 0 0, .bool false, .bool false, .bool false, .bool false, .bool false]) := Lib.hid (Holds.new w1 56 #[.string C, .slice c.a0 c.n0 c.c0, .slice c.a1 c.n1 c.c1, .slice c.a2 c.n2 c.c2, .slice c.a3 c.n3 c.c3, .slice c.a4 c.n4 c.c4, .slice c.a5 c.n5 c.c5, .slice c.a6 c.n6 c.c6, .slice c.a7 c.n7 c.c7, .slice none 0 0, .slice none 0 0, .bool false, .bool false, .bool false, .bool false, .bool false])
      have hgB : W0.heap.size ≤ w1.heap.size := B1.out.size
      have hgn : w.heap.size + 1 ≠ w1.heap.size := by have := HS0.out; omega
      obtain ⟨W, hW⟩ : ∃ W, Hid (W = (w1.alloc (.cells #[.string C, .slice c.a0 c.n0 c.c0, .slice c.a1 c.n1 c.c1, .slice c.a2 c.n2 c.c2, .slice c.a3 c.n3 c.c3, .slice c.a4 c.n4 c.c4, .slice c.a5 c.n5 c.c5, .slice c.a6 c.n6 c.c6, .slice c.a7 c.n7 c.c7, .slice none 0 0, .slice none 0 0, .bool false, .bool false, .bool false, .bool false, .bool false] 56))) := ⟨_, Lib.hid rfl⟩
      rw [← hW.out] at HG B3 ⊢
      have hI3 := Lib.hid ((B3.out.block _ HI.out.lt).trans HI.out)
      obtain ⟨k0, _, _, _, _, _, _, _, _, k18, k19⟩ := HX.out _ B3.out
      clear hHeld HPr
      have y14 : W.cell? ⟨w1.heap.size, 14, none⟩ = some (.bool false) := Holds.cell HG.out 14
      have z14 : W.frozen? ⟨w1.heap.size, 14, none⟩ = false := Holds.frozen HG.out 14
      have g0 : Hid (Holds (W.setCell ⟨w1.heap.size, 14, none⟩ (.bool true)) w1.heap.size 56 #[.string C, .slice c.a0 c.n0 c.c0, .slice c.a1 c.n1 c.c1, .slice c.a2 c.n2 c.c2, .slice c.a3 c.n3 c.c3, .slice c.a4 c.n4 c.c4, .slice c.a5 c.n5 c.c5, .slice c.a6 c.n6 c.c6, .slice c.a7 c.n7 c.c7, .slice none 0 0, .slice none 0 0, .bool false, .bool false, .bool false, .bool true, .bool false]) := Lib.hid (holds_told25 HG.out (by kernel_rfl))
      have t0 : Hid (Holds (W.setCell ⟨w1.heap.size, 14, none⟩ (.bool true)) (w.heap.size + 1) 56 #[.string ⟨#[]⟩, .slice none 0 0, .slice none 0 0, .slice none 0 0, .slice none 0 0, .slice none 0 0, .slice none 0 0, .slice none 0 0, .slice none 0 0, .slice none 0 0, .slice none 0 0, .bool false, .bool false, .bool false, .bool false, .bool false]) := Lib.hid ((heap_setCell_other _ _ _ _ (by show w.heap.size + 1 ≠ w1.heap.size; exact hgn)).trans hI3.out)
      have B4 := Lib.hid (below_setCell25 B3.out (show W0.heap.size ≤ (⟨w1.heap.size, 14, none⟩ : Addr).block from hgB) (.bool true))
      go_wp2_with (first
        | (refine wpList_load_row rfl 56 _ rfl w1.heap.size rfl 56 #[.string C, .slice c.a0 c.n0 c.c0, .slice c.a1 c.n1 c.c1, .slice c.a2 c.n2 c.c2, .slice c.a3 c.n3 c.c3, .slice c.a4 c.n4 c.c4, .slice c.a5 c.n5 c.c5, .slice c.a6 c.n6 c.c6, .slice c.a7 c.n7 c.c7, .slice none 0 0, .slice none 0 0, .bool false, .bool false, .bool false, .bool true, .bool false] (0, 0) _ (by exact g0.out) Tryd.underlying56 rfl (by exact sizeInit25) ?_)
        | (refine wpList_store_row rfl 56 _ _ rfl (w.heap.size + 1) #[.string C, .slice c.a0 c.n0 c.c0, .slice c.a1 c.n1 c.c1, .slice c.a2 c.n2 c.c2, .slice c.a3 c.n3 c.c3, .slice c.a4 c.n4 c.c4, .slice c.a5 c.n5 c.c5, .slice c.a6 c.n6 c.c6, .slice c.a7 c.n7 c.c7, .slice none 0 0, .slice none 0 0, .bool false, .bool false, .bool false, .bool true, .bool false] rfl rfl 56 #[.string ⟨#[]⟩, .slice none 0 0, .slice none 0 0, .slice none 0 0, .slice none 0 0, .slice none 0 0, .slice none 0 0, .slice none 0 0, .slice none 0 0, .slice none 0 0, .slice none 0 0, .bool false, .bool false, .bool false, .bool false, .bool false] (by exact t0.out) (by exact sizeInit25) (by rfl) (by simp [Value.oneCell']) ?_)
        | fail)
      refine bodyPost_ret (results_cell_row rfl _ _ (w.heap.size + 1) _ #[.string C, .slice c.a0 c.n0 c.c0, .slice c.a1 c.n1 c.c1, .slice c.a2 c.n2 c.c2, .slice c.a3 c.n3 c.c3, .slice c.a4 c.n4 c.c4, .slice c.a5 c.n5 c.c5, .slice c.a6 c.n6 c.c6, .slice c.a7 c.n7 c.c7, .slice none 0 0, .slice none 0 0, .bool false, .bool false, .bool false, .bool true, .bool false] (0, 0) _ rfl (setRow_heap _ (w.heap.size + 1) #[.string ⟨#[]⟩, .slice none 0 0, .slice none 0 0, .slice none 0 0, .slice none 0 0, .slice none 0 0, .slice none 0 0, .slice none 0 0, .slice none 0 0, .slice none 0 0, .slice none 0 0, .bool false, .bool false, .bool false, .bool false, .bool false] #[.string C, .slice c.a0 c.n0 c.c0, .slice c.a1 c.n1 c.c1, .slice c.a2 c.n2 c.c2, .slice c.a3 c.n3 c.c3, .slice c.a4 c.n4 c.c4, .slice c.a5 c.n5 c.c5, .slice c.a6 c.n6 c.c6, .slice c.a7 c.n7 c.c7, .slice none 0 0, .slice none 0 0, .bool false, .bool false, .bool false, .bool true, .bool false] 56 (0, 0) (by exact t0.out)) Tryd.underlying56 rfl (by exact sizeInit25)) rfl ?_
      exact ⟨rfl, below_setRow (HB.out.trans (B4.out.mono HB.out.size)) (by omega) _⟩
    · go_simp
      have B2 : Hid (Below W0.heap.size W0 (W0.drew.alloc (.cells #[.string ⟨#[]⟩, .slice none 0 0, .slice none 0 0, .slice none 0 0, .slice none 0 0, .slice none 0 0, .slice none 0 0, .slice none 0 0, .slice none 0 0, .slice none 0 0, .slice none 0 0, .bool false, .bool false, .bool false, .bool false, .bool false] 56))) := BR.out.alloc BR.out.size _
      have HI2 := Lib.hid (Holds.new W0.drew 56 #[.string ⟨#[]⟩, .slice none 0 0, .slice none 0 0, .slice none 0 0, .slice none 0 0, .slice none 0 0, .slice none 0 0, .slice none 0 0, .slice none 0 0, .slice none 0 0, .slice none 0 0, .bool false, .bool false, .bool false, .bool false, .bool false])
      refine hK.out _ _ ?_ (fun hHeld => ?_)
      · exact HPr.out _ B2.out
      clear hK K
      try simp only [Act.put, List.setIfInBounds_toArray, List.set_cons_zero, List.set_cons_succ]
      refine wpAnyH_ready (rs := [2]) (by kernel_rfl) (by simp) ?_
      refine AllReadyH.cons (o := { dst := some 10, op := Op.call { callee := Callee.value (Operand.func 41), args := #[Operand.tmp 8, Operand.tmp 9], argTypes := #[3, 3] }, type := 9, pos := "ref.go:69", after := #[{ on := 0, ground := Ground.data }, { on := 1, ground := Ground.data }], guard := none }) rfl (fun K hK => ?_) AllReadyH.nil
      go_simp
      go_at_call 41
      with_reducible refine (HK.out _).mono ?_
      rintro e w1 ⟨rfl, bb1⟩
      have B1 := Lib.hid (B2.out.trans (bb1.mono B2.out.size))
      have BB := Lib.hid bb1
      clear bb1
      go_wp2_with fail
      refine hK.out _ _ ?_ (fun hHeld => ?_)
      · exact HPr.out _ B1.out
      clear hK K
      try simp only [Act.put, List.setIfInBounds_toArray, List.set_cons_zero, List.set_cons_succ]
      refine wpAnyH_take (i := 5) (oi := { dst := some 13, op := Op.build 56 #[(0, Operand.tmp 10), (1, Operand.tmp 12)], type := 56, pos := "ref.go:69", after := #[{ on := 2, ground := Ground.data }, { on := 4, ground := Ground.data }], guard := none }) (v := ?_) rfl (by kernel_rfl) (by kernel_rfl) (by kernel_rfl) (fun _ _ _ h => h) (Or.inl ⟨by rfl, ?_⟩) (by assumption) ?_
      rotate_left 1
      · (intro w hSw; (try dsimp only at hSw); go_simp; (try with_reducible rfl))
      try simp only [Act.put, List.setIfInBounds_toArray, List.set_cons_zero, List.set_cons_succ]
      refine wpAnyH_ready (rs := [7]) (by kernel_rfl) (by simp) ?_
      refine AllReadyH.cons rfl (fun K hK => ?_) AllReadyH.nil
      refine step_store_row15 rfl 56 _ _ rfl W0.drew.heap.size #[.string C, .slice c.a0 c.n0 c.c0, .slice c.a1 c.n1 c.c1, .slice c.a2 c.n2 c.c2, .slice c.a3 c.n3 c.c3, .slice c.a4 c.n4 c.c4, .slice c.a5 c.n5 c.c5, .slice c.a6 c.n6 c.c6, .slice c.a7 c.n7 c.c7, .slice none 0 0, .slice none 0 0, .bool false, .bool false, .bool false, .bool false, .bool false] rfl rfl 56 #[.string ⟨#[]⟩, .slice none 0 0, .slice none 0 0, .slice none 0 0, .slice none 0 0, .slice none 0 0, .slice none 0 0, .slice none 0 0, .slice none 0 0, .slice none 0 0, .slice none 0 0, .bool false, .bool false, .bool false, .bool false, .bool false] ((BB.out.block _ HI2.out.lt).trans HI2.out) (by exact sizeInit25) (by rfl) (by simp [Value.oneCell']) ?_
      have B3 : Hid (Below W0.heap.size W0 (w1.setRow W0.drew.heap.size #[.string C, .slice c.a0 c.n0 c.c0, .slice c.a1 c.n1 c.c1, .slice c.a2 c.n2 c.c2, .slice c.a3 c.n3 c.c3, .slice c.a4 c.n4 c.c4, .slice c.a5 c.n5 c.c5, .slice c.a6 c.n6 c.c6, .slice c.a7 c.n7 c.c7, .slice none 0 0, .slice none 0 0, .bool false, .bool false, .bool false, .bool false, .bool false])) := Lib.hid (below_setRow (g := W0.drew.heap.size) B1.out (Nat.le_refl _) #[.string C, .slice c.a0 c.n0 c.c0, .slice c.a1 c.n1 c.c1, .slice c.a2 c.n2 c.c2, .slice c.a3 c.n3 c.c3, .slice c.a4 c.n4 c.c4, .slice c.a5 c.n5 c.c5, .slice c.a6 c.n6 c.c6, .slice c.a7 c.n7 c.c7, .slice none 0 0, .slice none 0 0, .bool false, .bool false, .bool false, .bool false, .bool false])
      refine hK.out _ _ ?_ (fun hHeld => ?_)
      · exact HPr.out _ B3.out
      clear hK K
      try simp only [Act.put, List.setIfInBounds_toArray, List.set_cons_zero, List.set_cons_succ]
      refine wpAnyH_done (by kernel_rfl) ?_ _
      have HG : Hid (Holds (w1.setRow W0.drew.heap.size #[.string C, .slice c.a0 c.n0 c.c0, .slice c.a1 c.n1 c.c1, .slice c.a2 c.n2 c.c2, .slice c.a3 c.n3 c.c3, .slice c.a4 c.n4 c.c4, .slice c.a5 c.n5 c.c5, .slice c.a6 c.n6 c.c6, .slice c.a7 c.n7 c.c7, .slice none 0 0, .slice none 0 0, .bool false, .bool false, .bool false, .bool false, .bool false]) W0.heap.size 56 #[.string C, .slice c.a0 c.n0 c.c0, .slice c.a1 c.n1 c.c1, .slice c.a2 c.n2 c.c2, .slice c.a3 c.n3 c.c3, .slice c.a4 c.n4 c.c4, .slice c.a5 c.n5 c.c5, .slice c.a6 c.n6 c.c6, .slice c.a7 c.n7 c.c7, .slice none 0 0, .slice none 0 0, .bool false, .bool false, .bool false, .bool false, .bool false]) := Lib.hid (setRow_heap w1 W0.heap.size #[.string ⟨#[]⟩, .slice none 0 0, .slice none 0 0, .slice none 0 0, .slice none 0 0, .slice none 0 0, .slice none 0 0, .slice none 0 0, .slice none 0 0, .slice none 0 0, .slice none 0 0, .bool false, .bool false, .bool false, .bool false, .bool false] #[.string C, .slice c.a0 c.n0 c.c0, .slice c.a1 c.n1 c.c1, .slice c.a2 c.n2 c.c2, .slice c.a3 c.n3 c.c3, .slice c.a4 c.n4 c.c4, .slice c.a5 c.n5 c.c5, .slice c.a6 c.n6 c.c6, .slice c.a7 c.n7 c.c7, .slice none 0 0, .slice none 0 0, .bool false, .bool false, .bool false, .bool false, .bool false] 56 (0, 0) ((BB.out.block _ HI2.out.lt).trans HI2.out))
      have hgB : W0.heap.size ≤ W0.heap.size := Nat.le_refl _
      have hgn : w.heap.size + 1 ≠ W0.heap.size := by have := HS0.out; omega
      obtain ⟨W, hW⟩ : ∃ W, Hid (W = (w1.setRow W0.drew.heap.size #[.string C, .slice c.a0 c.n0 c.c0, .slice c.a1 c.n1 c.c1, .slice c.a2 c.n2 c.c2, .slice c.a3 c.n3 c.c3, .slice c.a4 c.n4 c.c4, .slice c.a5 c.n5 c.c5, .slice c.a6 c.n6 c.c6, .slice c.a7 c.n7 c.c7, .slice none 0 0, .slice none 0 0, .bool false, .bool false, .bool false, .bool false, .bool false])) := ⟨_, Lib.hid rfl⟩
      rw [← hW.out] at HG B3 ⊢
      have hI3 := Lib.hid ((B3.out.block _ HI.out.lt).trans HI.out)
      obtain ⟨k0, _, _, _, _, _, _, _, _, k18, k19⟩ := HX.out _ B3.out
      clear hHeld HPr
      have y14 : W.cell? ⟨W0.heap.size, 14, none⟩ = some (.bool false) := Holds.cell HG.out 14
      have z14 : W.frozen? ⟨W0.heap.size, 14, none⟩ = false := Holds.frozen HG.out 14
      have g0 : Hid (Holds (W.setCell ⟨W0.heap.size, 14, none⟩ (.bool true)) W0.heap.size 56 #[.string C, .slice c.a0 c.n0 c.c0, .slice c.a1 c.n1 c.c1, .slice c.a2 c.n2 c.c2, .slice c.a3 c.n3 c.c3, .slice c.a4 c.n4 c.c4, .slice c.a5 c.n5 c.c5, .slice c.a6 c.n6 c.c6, .slice c.a7 c.n7 c.c7, .slice none 0 0, .slice none 0 0, .bool false, .bool false, .bool false, .bool true, .bool false]) := Lib.hid (holds_told25 HG.out (by kernel_rfl))
      have t0 : Hid (Holds (W.setCell ⟨W0.heap.size, 14, none⟩ (.bool true)) (w.heap.size + 1) 56 #[.string ⟨#[]⟩, .slice none 0 0, .slice none 0 0, .slice none 0 0, .slice none 0 0, .slice none 0 0, .slice none 0 0, .slice none 0 0, .slice none 0 0, .slice none 0 0, .slice none 0 0, .bool false, .bool false, .bool false, .bool false, .bool false]) := Lib.hid ((heap_setCell_other _ _ _ _ (by show w.heap.size + 1 ≠ W0.heap.size; exact hgn)).trans hI3.out)
      have B4 := Lib.hid (below_setCell25 B3.out (show W0.heap.size ≤ (⟨W0.heap.size, 14, none⟩ : Addr).block from hgB) (.bool true))
      go_wp2_with (first
        | (refine wpList_load_row rfl 56 _ rfl W0.heap.size rfl 56 #[.string C, .slice c.a0 c.n0 c.c0, .slice c.a1 c.n1 c.c1, .slice c.a2 c.n2 c.c2, .slice c.a3 c.n3 c.c3, .slice c.a4 c.n4 c.c4, .slice c.a5 c.n5 c.c5, .slice c.a6 c.n6 c.c6, .slice c.a7 c.n7 c.c7, .slice none 0 0, .slice none 0 0, .bool false, .bool false, .bool false, .bool true, .bool false] (0, 0) _ (by exact g0.out) Tryd.underlying56 rfl (by exact sizeInit25) ?_)
        | (refine wpList_store_row rfl 56 _ _ rfl (w.heap.size + 1) #[.string C, .slice c.a0 c.n0 c.c0, .slice c.a1 c.n1 c.c1, .slice c.a2 c.n2 c.c2, .slice c.a3 c.n3 c.c3, .slice c.a4 c.n4 c.c4, .slice c.a5 c.n5 c.c5, .slice c.a6 c.n6 c.c6, .slice c.a7 c.n7 c.c7, .slice none 0 0, .slice none 0 0, .bool false, .bool false, .bool false, .bool true, .bool false] rfl rfl 56 #[.string ⟨#[]⟩, .slice none 0 0, .slice none 0 0, .slice none 0 0, .slice none 0 0, .slice none 0 0, .slice none 0 0, .slice none 0 0, .slice none 0 0, .slice none 0 0, .slice none 0 0, .bool false, .bool false, .bool false, .bool false, .bool false] (by exact t0.out) (by exact sizeInit25) (by rfl) (by simp [Value.oneCell']) ?_)
        | fail)
      refine bodyPost_ret (results_cell_row rfl _ _ (w.heap.size + 1) _ #[.string C, .slice c.a0 c.n0 c.c0, .slice c.a1 c.n1 c.c1, .slice c.a2 c.n2 c.c2, .slice c.a3 c.n3 c.c3, .slice c.a4 c.n4 c.c4, .slice c.a5 c.n5 c.c5, .slice c.a6 c.n6 c.c6, .slice c.a7 c.n7 c.c7, .slice none 0 0, .slice none 0 0, .bool false, .bool false, .bool false, .bool true, .bool false] (0, 0) _ rfl (setRow_heap _ (w.heap.size + 1) #[.string ⟨#[]⟩, .slice none 0 0, .slice none 0 0, .slice none 0 0, .slice none 0 0, .slice none 0 0, .slice none 0 0, .slice none 0 0, .slice none 0 0, .slice none 0 0, .slice none 0 0, .bool false, .bool false, .bool false, .bool false, .bool false] #[.string C, .slice c.a0 c.n0 c.c0, .slice c.a1 c.n1 c.c1, .slice c.a2 c.n2 c.c2, .slice c.a3 c.n3 c.c3, .slice c.a4 c.n4 c.c4, .slice c.a5 c.n5 c.c5, .slice c.a6 c.n6 c.c6, .slice c.a7 c.n7 c.c7, .slice none 0 0, .slice none 0 0, .bool false, .bool false, .bool false, .bool true, .bool false] 56 (0, 0) (by exact t0.out)) Tryd.underlying56 rfl (by exact sizeInit25)) rfl ?_
      exact ⟨rfl, below_setRow (HB.out.trans (B4.out.mono HB.out.size)) (by omega) _⟩
  · refine wp_region_held_drew (S := fun w' => w'.cell? ⟨w.heap.size, 3, none⟩ = some (.slice c.a0 c.n0 c.c0) ∧ w'.cell? ⟨w.heap.size, 4, none⟩ = some (.slice c.a1 c.n1 c.c1) ∧ w'.cell? ⟨w.heap.size, 5, none⟩ = some (.slice c.a2 c.n2 c.c2) ∧ w'.cell? ⟨w.heap.size, 6, none⟩ = some (.slice c.a3 c.n3 c.c3) ∧ w'.cell? ⟨w.heap.size, 7, none⟩ = some (.slice c.a4 c.n4 c.c4) ∧ w'.cell? ⟨w.heap.size, 8, none⟩ = some (.slice c.a5 c.n5 c.c5) ∧ w'.cell? ⟨w.heap.size, 9, none⟩ = some (.slice c.a6 c.n6 c.c6) ∧ w'.cell? ⟨w.heap.size, 10, none⟩ = some (.slice c.a7 c.n7 c.c7)) (by kernel_rfl) ?_ (fun hHeld => ?_)
    · exact HPr.out _ BR.out
    refine wpAnyH_take (i := 0) (oi := { dst := some 8, op := Op.move (Operand.tmp 1), type := 3, pos := "ref.go:69", after := #[], guard := none }) (v := ?_) rfl (by kernel_rfl) (by kernel_rfl) (by kernel_rfl) (fun _ _ _ h => h) (Or.inl ⟨by rfl, ?_⟩) (by assumption) ?_
    rotate_left 1
    · (intro w hSw; (try dsimp only at hSw); go_simp; (try with_reducible rfl))
    try simp only [Act.put, List.setIfInBounds_toArray, List.set_cons_zero, List.set_cons_succ]
    refine wpAnyH_take (i := 1) (oi := { dst := some 9, op := Op.move (Operand.tmp 2), type := 3, pos := "ref.go:69", after := #[], guard := none }) (v := ?_) rfl (by kernel_rfl) (by kernel_rfl) (by kernel_rfl) (fun _ _ _ h => h) (Or.inl ⟨by rfl, ?_⟩) (by assumption) ?_
    rotate_left 1
    · (intro w hSw; (try dsimp only at hSw); go_simp; (try with_reducible rfl))
    try simp only [Act.put, List.setIfInBounds_toArray, List.set_cons_zero, List.set_cons_succ]
    refine wpAnyH_take (i := 3) (oi := { dst := some 11, op := Op.fieldAddr 51 (Operand.tmp 3) 3, type := 0, pos := "ref.go:69", after := #[], guard := none }) (v := ?_) rfl (by kernel_rfl) (by kernel_rfl) (by kernel_rfl) (fun _ _ _ h => h) (Or.inl ⟨by rfl, ?_⟩) (by assumption) ?_
    rotate_left 1
    · (intro w hSw; (try dsimp only at hSw); go_simp; (try with_reducible rfl))
    try simp only [Act.put, List.setIfInBounds_toArray, List.set_cons_zero, List.set_cons_succ]
    refine wpAnyH_take (i := 4) (oi := { dst := some 12, op := Op.load 46 (Operand.tmp 11), type := 46, pos := "ref.go:69", after := #[{ on := 3, ground := Ground.data }], guard := none }) (v := ?_) rfl (by kernel_rfl) (by kernel_rfl) (by kernel_rfl) (fun _ _ _ h => h) (Or.inl ⟨by rfl, ?_⟩) (by assumption) ?_
    rotate_left 1
    · (intro w hSw; (try dsimp only at hSw); go_simp; (try with_reducible rfl))
    try simp only [Act.put, List.setIfInBounds_toArray, List.set_cons_zero, List.set_cons_succ]
    refine wpAnyH_ready (rs := [2, 6]) (by kernel_rfl) (by simp) ?_
    refine AllReadyH.cons (o := { dst := some 10, op := Op.call { callee := Callee.value (Operand.func 41), args := #[Operand.tmp 8, Operand.tmp 9], argTypes := #[3, 3] }, type := 9, pos := "ref.go:69", after := #[{ on := 0, ground := Ground.data }, { on := 1, ground := Ground.data }], guard := none }) rfl (fun K hK => ?_) (AllReadyH.cons (o := { dst := some 7, op := Op.alloc 56, type := 0, pos := "ref.go:69", after := #[], guard := none }) rfl (fun K hK => ?_) AllReadyH.nil)
    · go_simp
      go_at_call 41
      with_reducible refine (HK.out _).mono ?_
      rintro e w1 ⟨rfl, bb1⟩
      have B1 := Lib.hid (BR.out.trans (bb1.mono BR.out.size))
      have BB := Lib.hid bb1
      clear bb1
      go_wp2_with fail
      refine hK.out _ _ ?_ (fun hHeld => ?_)
      · exact HPr.out _ B1.out
      clear hK K
      try simp only [Act.put, List.setIfInBounds_toArray, List.set_cons_zero, List.set_cons_succ]
      refine wpAnyH_take (i := 5) (oi := { dst := some 13, op := Op.build 56 #[(0, Operand.tmp 10), (1, Operand.tmp 12)], type := 56, pos := "ref.go:69", after := #[{ on := 2, ground := Ground.data }, { on := 4, ground := Ground.data }], guard := none }) (v := ?_) rfl (by kernel_rfl) (by kernel_rfl) (by kernel_rfl) (fun _ _ _ h => h) (Or.inl ⟨by rfl, ?_⟩) (by assumption) ?_
      rotate_left 1
      · (intro w hSw; (try dsimp only at hSw); go_simp; (try with_reducible rfl))
      try simp only [Act.put, List.setIfInBounds_toArray, List.set_cons_zero, List.set_cons_succ]
      refine wpAnyH_ready (rs := [6]) (by kernel_rfl) (by simp) ?_
      refine AllReadyH.cons (o := { dst := some 7, op := Op.alloc 56, type := 0, pos := "ref.go:69", after := #[], guard := none }) rfl (fun K hK => ?_) AllReadyH.nil
      go_simp
      have B2 : Hid (Below W0.heap.size W0 (w1.alloc (.cells #[.string ⟨#[]⟩, .slice none 0 0, .slice none 0 0, .slice none 0 0, .slice none 0 0, .slice none 0 0, .slice none 0 0, .slice none 0 0, .slice none 0 0, .slice none 0 0, .slice none 0 0, .bool false, .bool false, .bool false, .bool false, .bool false] 56))) := B1.out.alloc B1.out.size _
      refine hK.out _ _ ?_ (fun hHeld => ?_)
      · exact HPr.out _ B2.out
      clear hK K
      try simp only [Act.put, List.setIfInBounds_toArray, List.set_cons_zero, List.set_cons_succ]
      refine wpAnyH_ready (rs := [7]) (by kernel_rfl) (by simp) ?_
      refine AllReadyH.cons rfl (fun K hK => ?_) AllReadyH.nil
      refine step_store_row15 rfl 56 _ _ rfl w1.heap.size #[.string C, .slice c.a0 c.n0 c.c0, .slice c.a1 c.n1 c.c1, .slice c.a2 c.n2 c.c2, .slice c.a3 c.n3 c.c3, .slice c.a4 c.n4 c.c4, .slice c.a5 c.n5 c.c5, .slice c.a6 c.n6 c.c6, .slice c.a7 c.n7 c.c7, .slice none 0 0, .slice none 0 0, .bool false, .bool false, .bool false, .bool false, .bool false] rfl rfl 56 #[.string ⟨#[]⟩, .slice none 0 0, .slice none 0 0, .slice none 0 0, .slice none 0 0, .slice none 0 0, .slice none 0 0, .slice none 0 0, .slice none 0 0, .slice none 0 0, .slice none 0 0, .bool false, .bool false, .bool false, .bool false, .bool false] (new_row w1 _ _ rfl) (by exact sizeInit25) (by rfl) (by simp [Value.oneCell']) ?_
      rw [alloc_setRow w1 _ _ _ rfl]
      have B3 : Hid (Below W0.heap.size W0 (w1.alloc (.cells #[.string C, .slice c.a0 c.n0 c.c0, .slice c.a1 c.n1 c.c1, .slice c.a2 c.n2 c.c2, .slice c.a3 c.n3 c.c3, .slice c.a4 c.n4 c.c4, .slice c.a5 c.n5 c.c5, .slice c.a6 c.n6 c.c6, .slice c.a7 c.n7 c.c7, .slice none 0 0, .slice none 0 0, .bool false, .bool false, .bool false, .bool false, .bool false] 56))) := B1.out.alloc B1.out.size _
      refine hK.out _ _ ?_ (fun hHeld => ?_)
      · exact HPr.out _ B3.out
      clear hK K
      try simp only [Act.put, List.setIfInBounds_toArray, List.set_cons_zero, List.set_cons_succ]
      refine wpAnyH_done (by kernel_rfl) ?_ _
      have HG : Hid (Holds (w1.alloc (.cells #[.string C, .slice c.a0 c.n0 c.c0, .slice c.a1 c.n1 c.c1, .slice c.a2 c.n2 c.c2, .slice c.a3 c.n3 c.c3, .slice c.a4 c.n4 c.c4, .slice c.a5 c.n5 c.c5, .slice c.a6 c.n6 c.c6, .slice c.a7 c.n7 c.c7, .slice none 0 0, .slice none 0 0, .bool false, .bool false, .bool false, .bool false, .bool false] 56)) w1.heap.size 56 #[.string C, .slice c.a0 c.n0 c.c0, .slice c.a1 c.n1 c.c1, .slice c.a2 c.n2 c.c2, .slice c.a3 c.n3 c.c3, .slice c.a4 c.n4 c.c4, .slice c.a5 c.n5 c.c5, .slice c.a6 c.n6 c.c6, .slice c.a7 c.n7 c.c7, .slice none 0 0, .slice none 0 0, .bool false, .bool false, .bool false, .bool false, .bool false]) := Lib.hid (Holds.new w1 56 #[.string C, .slice c.a0 c.n0 c.c0, .slice c.a1 c.n1 c.c1, .slice c.a2 c.n2 c.c2, .slice c.a3 c.n3 c.c3, .slice c.a4 c.n4 c.c4, .slice c.a5 c.n5 c.c5, .slice c.a6 c.n6 c.c6, .slice c.a7 c.n7 c.c7, .slice none 0 0, .slice none 0 0, .bool false, .bool false, .bool false, .bool false, .bool false])
      have hgB : W0.heap.size ≤ w1.heap.size := B1.out.size
      have hgn : w.heap.size + 1 ≠ w1.heap.size := by have := HS0.out; omega
      obtain ⟨W, hW⟩ : ∃ W, Hid (W = (w1.alloc (.cells #[.string C, .slice c.a0 c.n0 c.c0, .slice c.a1 c.n1 c.c1, .slice c.a2 c.n2 c.c2, .slice c.a3 c.n3 c.c3, .slice c.a4 c.n4 c.c4, .slice c.a5 c.n5 c.c5, .slice c.a6 c.n6 c.c6, .slice c.a7 c.n7 c.c7, .slice none 0 0, .slice none 0 0, .bool false, .bool false, .bool false, .bool false, .bool false] 56))) := ⟨_, Lib.hid rfl⟩
      rw [← hW.out] at HG B3 ⊢
      have hI3 := Lib.hid ((B3.out.block _ HI.out.lt).trans HI.out)
      obtain ⟨k0, _, _, _, _, _, _, _, _, k18, k19⟩ := HX.out _ B3.out
      clear hHeld HPr
      have y14 : W.cell? ⟨w1.heap.size, 14, none⟩ = some (.bool false) := Holds.cell HG.out 14
      have z14 : W.frozen? ⟨w1.heap.size, 14, none⟩ = false := Holds.frozen HG.out 14
      have g0 : Hid (Holds (W.setCell ⟨w1.heap.size, 14, none⟩ (.bool true)) w1.heap.size 56 #[.string C, .slice c.a0 c.n0 c.c0, .slice c.a1 c.n1 c.c1, .slice c.a2 c.n2 c.c2, .slice c.a3 c.n3 c.c3, .slice c.a4 c.n4 c.c4, .slice c.a5 c.n5 c.c5, .slice c.a6 c.n6 c.c6, .slice c.a7 c.n7 c.c7, .slice none 0 0, .slice none 0 0, .bool false, .bool false, .bool false, .bool true, .bool false]) := Lib.hid (holds_told25 HG.out (by kernel_rfl))
      have t0 : Hid (Holds (W.setCell ⟨w1.heap.size, 14, none⟩ (.bool true)) (w.heap.size + 1) 56 #[.string ⟨#[]⟩, .slice none 0 0, .slice none 0 0, .slice none 0 0, .slice none 0 0, .slice none 0 0, .slice none 0 0, .slice none 0 0, .slice none 0 0, .slice none 0 0, .slice none 0 0, .bool false, .bool false, .bool false, .bool false, .bool false]) := Lib.hid ((heap_setCell_other _ _ _ _ (by show w.heap.size + 1 ≠ w1.heap.size; exact hgn)).trans hI3.out)
      have B4 := Lib.hid (below_setCell25 B3.out (show W0.heap.size ≤ (⟨w1.heap.size, 14, none⟩ : Addr).block from hgB) (.bool true))
      go_wp2_with (first
        | (refine wpList_load_row rfl 56 _ rfl w1.heap.size rfl 56 #[.string C, .slice c.a0 c.n0 c.c0, .slice c.a1 c.n1 c.c1, .slice c.a2 c.n2 c.c2, .slice c.a3 c.n3 c.c3, .slice c.a4 c.n4 c.c4, .slice c.a5 c.n5 c.c5, .slice c.a6 c.n6 c.c6, .slice c.a7 c.n7 c.c7, .slice none 0 0, .slice none 0 0, .bool false, .bool false, .bool false, .bool true, .bool false] (0, 0) _ (by exact g0.out) Tryd.underlying56 rfl (by exact sizeInit25) ?_)
        | (refine wpList_store_row rfl 56 _ _ rfl (w.heap.size + 1) #[.string C, .slice c.a0 c.n0 c.c0, .slice c.a1 c.n1 c.c1, .slice c.a2 c.n2 c.c2, .slice c.a3 c.n3 c.c3, .slice c.a4 c.n4 c.c4, .slice c.a5 c.n5 c.c5, .slice c.a6 c.n6 c.c6, .slice c.a7 c.n7 c.c7, .slice none 0 0, .slice none 0 0, .bool false, .bool false, .bool false, .bool true, .bool false] rfl rfl 56 #[.string ⟨#[]⟩, .slice none 0 0, .slice none 0 0, .slice none 0 0, .slice none 0 0, .slice none 0 0, .slice none 0 0, .slice none 0 0, .slice none 0 0, .slice none 0 0, .slice none 0 0, .bool false, .bool false, .bool false, .bool false, .bool false] (by exact t0.out) (by exact sizeInit25) (by rfl) (by simp [Value.oneCell']) ?_)
        | fail)
      refine bodyPost_ret (results_cell_row rfl _ _ (w.heap.size + 1) _ #[.string C, .slice c.a0 c.n0 c.c0, .slice c.a1 c.n1 c.c1, .slice c.a2 c.n2 c.c2, .slice c.a3 c.n3 c.c3, .slice c.a4 c.n4 c.c4, .slice c.a5 c.n5 c.c5, .slice c.a6 c.n6 c.c6, .slice c.a7 c.n7 c.c7, .slice none 0 0, .slice none 0 0, .bool false, .bool false, .bool false, .bool true, .bool false] (0, 0) _ rfl (setRow_heap _ (w.heap.size + 1) #[.string ⟨#[]⟩, .slice none 0 0, .slice none 0 0, .slice none 0 0, .slice none 0 0, .slice none 0 0, .slice none 0 0, .slice none 0 0, .slice none 0 0, .slice none 0 0, .slice none 0 0, .bool false, .bool false, .bool false, .bool false, .bool false] #[.string C, .slice c.a0 c.n0 c.c0, .slice c.a1 c.n1 c.c1, .slice c.a2 c.n2 c.c2, .slice c.a3 c.n3 c.c3, .slice c.a4 c.n4 c.c4, .slice c.a5 c.n5 c.c5, .slice c.a6 c.n6 c.c6, .slice c.a7 c.n7 c.c7, .slice none 0 0, .slice none 0 0, .bool false, .bool false, .bool false, .bool true, .bool false] 56 (0, 0) (by exact t0.out)) Tryd.underlying56 rfl (by exact sizeInit25)) rfl ?_
      exact ⟨rfl, below_setRow (HB.out.trans (B4.out.mono HB.out.size)) (by omega) _⟩
    · go_simp
      have B2 : Hid (Below W0.heap.size W0 (W0.drew.alloc (.cells #[.string ⟨#[]⟩, .slice none 0 0, .slice none 0 0, .slice none 0 0, .slice none 0 0, .slice none 0 0, .slice none 0 0, .slice none 0 0, .slice none 0 0, .slice none 0 0, .slice none 0 0, .bool false, .bool false, .bool false, .bool false, .bool false] 56))) := BR.out.alloc BR.out.size _
      have HI2 := Lib.hid (Holds.new W0.drew 56 #[.string ⟨#[]⟩, .slice none 0 0, .slice none 0 0, .slice none 0 0, .slice none 0 0, .slice none 0 0, .slice none 0 0, .slice none 0 0, .slice none 0 0, .slice none 0 0, .slice none 0 0, .bool false, .bool false, .bool false, .bool false, .bool false])
      refine hK.out _ _ ?_ (fun hHeld => ?_)
      · exact HPr.out _ B2.out
      clear hK K
      try simp only [Act.put, List.setIfInBounds_toArray, List.set_cons_zero, List.set_cons_succ]
      refine wpAnyH_ready (rs := [2]) (by kernel_rfl) (by simp) ?_
      refine AllReadyH.cons (o := { dst := some 10, op := Op.call { callee := Callee.value (Operand.func 41), args := #[Operand.tmp 8, Operand.tmp 9], argTypes := #[3, 3] }, type := 9, pos := "ref.go:69", after := #[{ on := 0, ground := Ground.data }, { on := 1, ground := Ground.data }], guard := none }) rfl (fun K hK => ?_) AllReadyH.nil
      go_simp
      go_at_call 41
      with_reducible refine (HK.out _).mono ?_
      rintro e w1 ⟨rfl, bb1⟩
      have B1 := Lib.hid (B2.out.trans (bb1.mono B2.out.size))
      have BB := Lib.hid bb1
      clear bb1
      go_wp2_with fail
      refine hK.out _ _ ?_ (fun hHeld => ?_)
      · exact HPr.out _ B1.out
      clear hK K
      try simp only [Act.put, List.setIfInBounds_toArray, List.set_cons_zero, List.set_cons_succ]
      refine wpAnyH_take (i := 5) (oi := { dst := some 13, op := Op.build 56 #[(0, Operand.tmp 10), (1, Operand.tmp 12)], type := 56, pos := "ref.go:69", after := #[{ on := 2, ground := Ground.data }, { on := 4, ground := Ground.data }], guard := none }) (v := ?_) rfl (by kernel_rfl) (by kernel_rfl) (by kernel_rfl) (fun _ _ _ h => h) (Or.inl ⟨by rfl, ?_⟩) (by assumption) ?_
      rotate_left 1
      · (intro w hSw; (try dsimp only at hSw); go_simp; (try with_reducible rfl))
      try simp only [Act.put, List.setIfInBounds_toArray, List.set_cons_zero, List.set_cons_succ]
      refine wpAnyH_ready (rs := [7]) (by kernel_rfl) (by simp) ?_
      refine AllReadyH.cons rfl (fun K hK => ?_) AllReadyH.nil
      refine step_store_row15 rfl 56 _ _ rfl W0.drew.heap.size #[.string C, .slice c.a0 c.n0 c.c0, .slice c.a1 c.n1 c.c1, .slice c.a2 c.n2 c.c2, .slice c.a3 c.n3 c.c3, .slice c.a4 c.n4 c.c4, .slice c.a5 c.n5 c.c5, .slice c.a6 c.n6 c.c6, .slice c.a7 c.n7 c.c7, .slice none 0 0, .slice none 0 0, .bool false, .bool false, .bool false, .bool false, .bool false] rfl rfl 56 #[.string ⟨#[]⟩, .slice none 0 0, .slice none 0 0, .slice none 0 0, .slice none 0 0, .slice none 0 0, .slice none 0 0, .slice none 0 0, .slice none 0 0, .slice none 0 0, .slice none 0 0, .bool false, .bool false, .bool false, .bool false, .bool false] ((BB.out.block _ HI2.out.lt).trans HI2.out) (by exact sizeInit25) (by rfl) (by simp [Value.oneCell']) ?_
      have B3 : Hid (Below W0.heap.size W0 (w1.setRow W0.drew.heap.size #[.string C, .slice c.a0 c.n0 c.c0, .slice c.a1 c.n1 c.c1, .slice c.a2 c.n2 c.c2, .slice c.a3 c.n3 c.c3, .slice c.a4 c.n4 c.c4, .slice c.a5 c.n5 c.c5, .slice c.a6 c.n6 c.c6, .slice c.a7 c.n7 c.c7, .slice none 0 0, .slice none 0 0, .bool false, .bool false, .bool false, .bool false, .bool false])) := Lib.hid (below_setRow (g := W0.drew.heap.size) B1.out (Nat.le_refl _) #[.string C, .slice c.a0 c.n0 c.c0, .slice c.a1 c.n1 c.c1, .slice c.a2 c.n2 c.c2, .slice c.a3 c.n3 c.c3, .slice c.a4 c.n4 c.c4, .slice c.a5 c.n5 c.c5, .slice c.a6 c.n6 c.c6, .slice c.a7 c.n7 c.c7, .slice none 0 0, .slice none 0 0, .bool false, .bool false, .bool false, .bool false, .bool false])
      refine hK.out _ _ ?_ (fun hHeld => ?_)
      · exact HPr.out _ B3.out
      clear hK K
      try simp only [Act.put, List.setIfInBounds_toArray, List.set_cons_zero, List.set_cons_succ]
      refine wpAnyH_done (by kernel_rfl) ?_ _
      have HG : Hid (Holds (w1.setRow W0.drew.heap.size #[.string C, .slice c.a0 c.n0 c.c0, .slice c.a1 c.n1 c.c1, .slice c.a2 c.n2 c.c2, .slice c.a3 c.n3 c.c3, .slice c.a4 c.n4 c.c4, .slice c.a5 c.n5 c.c5, .slice c.a6 c.n6 c.c6, .slice c.a7 c.n7 c.c7, .slice none 0 0, .slice none 0 0, .bool false, .bool false, .bool false, .bool false, .bool false]) W0.heap.size 56 #[.string C, .slice c.a0 c.n0 c.c0, .slice c.a1 c.n1 c.c1, .slice c.a2 c.n2 c.c2, .slice c.a3 c.n3 c.c3, .slice c.a4 c.n4 c.c4, .slice c.a5 c.n5 c.c5, .slice c.a6 c.n6 c.c6, .slice c.a7 c.n7 c.c7, .slice none 0 0, .slice none 0 0, .bool false, .bool false, .bool false, .bool false, .bool false]) := Lib.hid (setRow_heap w1 W0.heap.size #[.string ⟨#[]⟩, .slice none 0 0, .slice none 0 0, .slice none 0 0, .slice none 0 0, .slice none 0 0, .slice none 0 0, .slice none 0 0, .slice none 0 0, .slice none 0 0, .slice none 0 0, .bool false, .bool false, .bool false, .bool false, .bool false] #[.string C, .slice c.a0 c.n0 c.c0, .slice c.a1 c.n1 c.c1, .slice c.a2 c.n2 c.c2, .slice c.a3 c.n3 c.c3, .slice c.a4 c.n4 c.c4, .slice c.a5 c.n5 c.c5, .slice c.a6 c.n6 c.c6, .slice c.a7 c.n7 c.c7, .slice none 0 0, .slice none 0 0, .bool false, .bool false, .bool false, .bool false, .bool false] 56 (0, 0) ((BB.out.block _ HI2.out.lt).trans HI2.out))
      have hgB : W0.heap.size ≤ W0.heap.size := Nat.le_refl _
      have hgn : w.heap.size + 1 ≠ W0.heap.size := by have := HS0.out; omega
      obtain ⟨W, hW⟩ : ∃ W, Hid (W = (w1.setRow W0.drew.heap.size #[.string C, .slice c.a0 c.n0 c.c0, .slice c.a1 c.n1 c.c1, .slice c.a2 c.n2 c.c2, .slice c.a3 c.n3 c.c3, .slice c.a4 c.n4 c.c4, .slice c.a5 c.n5 c.c5, .slice c.a6 c.n6 c.c6, .slice c.a7 c.n7 c.c7, .slice none 0 0, .slice none 0 0, .bool false, .bool false, .bool false, .bool false, .bool false])) := ⟨_, Lib.hid rfl⟩
      rw [← hW.out] at HG B3 ⊢
      have hI3 := Lib.hid ((B3.out.block _ HI.out.lt).trans HI.out)
      obtain ⟨k0, _, _, _, _, _, _, _, _, k18, k19⟩ := HX.out _ B3.out
      clear hHeld HPr
      have y14 : W.cell? ⟨W0.heap.size, 14, none⟩ = some (.bool false) := Holds.cell HG.out 14
      have z14 : W.frozen? ⟨W0.heap.size, 14, none⟩ = false := Holds.frozen HG.out 14
      have g0 : Hid (Holds (W.setCell ⟨W0.heap.size, 14, none⟩ (.bool true)) W0.heap.size 56 #[.string C, .slice c.a0 c.n0 c.c0, .slice c.a1 c.n1 c.c1, .slice c.a2 c.n2 c.c2, .slice c.a3 c.n3 c.c3, .slice c.a4 c.n4 c.c4, .slice c.a5 c.n5 c.c5, .slice c.a6 c.n6 c.c6, .slice c.a7 c.n7 c.c7, .slice none 0 0, .slice none 0 0, .bool false, .bool false, .bool false, .bool true, .bool false]) := Lib.hid (holds_told25 HG.out (by kernel_rfl))
      have t0 : Hid (Holds (W.setCell ⟨W0.heap.size, 14, none⟩ (.bool true)) (w.heap.size + 1) 56 #[.string ⟨#[]⟩, .slice none 0 0, .slice none 0 0, .slice none 0 0, .slice none 0 0, .slice none 0 0, .slice none 0 0, .slice none 0 0, .slice none 0 0, .slice none 0 0, .slice none 0 0, .bool false, .bool false, .bool false, .bool false, .bool false]) := Lib.hid ((heap_setCell_other _ _ _ _ (by show w.heap.size + 1 ≠ W0.heap.size; exact hgn)).trans hI3.out)
      have B4 := Lib.hid (below_setCell25 B3.out (show W0.heap.size ≤ (⟨W0.heap.size, 14, none⟩ : Addr).block from hgB) (.bool true))
      go_wp2_with (first
        | (refine wpList_load_row rfl 56 _ rfl W0.heap.size rfl 56 #[.string C, .slice c.a0 c.n0 c.c0, .slice c.a1 c.n1 c.c1, .slice c.a2 c.n2 c.c2, .slice c.a3 c.n3 c.c3, .slice c.a4 c.n4 c.c4, .slice c.a5 c.n5 c.c5, .slice c.a6 c.n6 c.c6, .slice c.a7 c.n7 c.c7, .slice none 0 0, .slice none 0 0, .bool false, .bool false, .bool false, .bool true, .bool false] (0, 0) _ (by exact g0.out) Tryd.underlying56 rfl (by exact sizeInit25) ?_)
        | (refine wpList_store_row rfl 56 _ _ rfl (w.heap.size + 1) #[.string C, .slice c.a0 c.n0 c.c0, .slice c.a1 c.n1 c.c1, .slice c.a2 c.n2 c.c2, .slice c.a3 c.n3 c.c3, .slice c.a4 c.n4 c.c4, .slice c.a5 c.n5 c.c5, .slice c.a6 c.n6 c.c6, .slice c.a7 c.n7 c.c7, .slice none 0 0, .slice none 0 0, .bool false, .bool false, .bool false, .bool true, .bool false] rfl rfl 56 #[.string ⟨#[]⟩, .slice none 0 0, .slice none 0 0, .slice none 0 0, .slice none 0 0, .slice none 0 0, .slice none 0 0, .slice none 0 0, .slice none 0 0, .slice none 0 0, .slice none 0 0, .bool false, .bool false, .bool false, .bool false, .bool false] (by exact t0.out) (by exact sizeInit25) (by rfl) (by simp [Value.oneCell']) ?_)
        | fail)
      refine bodyPost_ret (results_cell_row rfl _ _ (w.heap.size + 1) _ #[.string C, .slice c.a0 c.n0 c.c0, .slice c.a1 c.n1 c.c1, .slice c.a2 c.n2 c.c2, .slice c.a3 c.n3 c.c3, .slice c.a4 c.n4 c.c4, .slice c.a5 c.n5 c.c5, .slice c.a6 c.n6 c.c6, .slice c.a7 c.n7 c.c7, .slice none 0 0, .slice none 0 0, .bool false, .bool false, .bool false, .bool true, .bool false] (0, 0) _ rfl (setRow_heap _ (w.heap.size + 1) #[.string ⟨#[]⟩, .slice none 0 0, .slice none 0 0, .slice none 0 0, .slice none 0 0, .slice none 0 0, .slice none 0 0, .slice none 0 0, .slice none 0 0, .slice none 0 0, .slice none 0 0, .bool false, .bool false, .bool false, .bool false, .bool false] #[.string C, .slice c.a0 c.n0 c.c0, .slice c.a1 c.n1 c.c1, .slice c.a2 c.n2 c.c2, .slice c.a3 c.n3 c.c3, .slice c.a4 c.n4 c.c4, .slice c.a5 c.n5 c.c5, .slice c.a6 c.n6 c.c6, .slice c.a7 c.n7 c.c7, .slice none 0 0, .slice none 0 0, .bool false, .bool false, .bool false, .bool true, .bool false] 56 (0, 0) (by exact t0.out)) Tryd.underlying56 rfl (by exact sizeInit25)) rfl ?_
      exact ⟨rfl, below_setRow (HB.out.trans (B4.out.mono HB.out.size)) (by omega) _⟩
end Go.Proofs.YtgoinpibllomfaaDoor
