/- Part 19 of what the statement wants. -/
import Derived.Test.YtgoinpibllomfaaDoorPk18
namespace Go.Proofs.YtgoinpibllomfaaDoor
open Go.RowKit

set_option maxHeartbeats 4000000 in
set_option maxRecDepth 100000 in
theorem cfPlain_cli {w : World} (hT : Tab15 w) (host : Int) : Calls Tryd.prog 25 #[.bool false, .int .i64 host] w fun e w' => ∃ c, e = .returned (.agg c.row) ∧ CfAt w' c (plainD false) ∧ PlainV false host c ∧ (∀ k < 8, Room15 (c.u k)) ∧ Below w.heap.size w w' := by
  have HP := Lib.hid (fun (W : World) (hb : Below w.heap.size w W) => pfPlain_new (hT.below hb))
  have HB0 : Hid (Below w.heap.size w (w.alloc (.cells #[.bool false, .string ⟨#[]⟩, .string ⟨#[]⟩, .slice none 0 0, .slice none 0 0, .slice none 0 0, .slice none 0 0, .slice none 0 0, .slice none 0 0, .slice none 0 0, .slice none 0 0, .slice none 0 0, .int .i64 0, .slice none 0 0, .int .i64 0, .int .i64 0, .string ⟨#[]⟩, .slice none 0 0, .bool false, .bool false, .int .u32 0, .int .u32 0, .int .u32 0] 51))) := (Below.refl _ _).alloc (Nat.le_refl _) _
  have HN := Lib.hid (Holds.new w 51 #[.bool false, .string ⟨#[]⟩, .string ⟨#[]⟩, .slice none 0 0, .slice none 0 0, .slice none 0 0, .slice none 0 0, .slice none 0 0, .slice none 0 0, .slice none 0 0, .slice none 0 0, .slice none 0 0, .int .i64 0, .slice none 0 0, .int .i64 0, .int .i64 0, .string ⟨#[]⟩, .slice none 0 0, .bool false, .bool false, .int .u32 0, .int .u32 0, .int .u32 0])
  clear hT
  go_enter Tryd.func25, Tryd.ntmps25
  go_wp2_with (first
    | (refine wpList_build_as rfl 51 _ rfl #[.bool false, .string ⟨#[112, 108, 97, 105, 110]⟩, .string ⟨#[]⟩, .slice (some ⟨b0, 0, none⟩) n0 c0, .slice (some ⟨b1, 0, none⟩) n1 c1, .slice (some ⟨b2, 0, none⟩) n2 c2, .slice (some ⟨b3, 0, none⟩) n3 c3, .slice (some ⟨b4, 0, none⟩) n4 c4, .slice (some ⟨b5, 0, none⟩) n5 c5, .slice (some ⟨b6, 0, none⟩) n6 c6, .slice (some ⟨b7, 0, none⟩) n7 c7, .slice (some ⟨w1.heap.size, 0, none⟩) 1 1, .int .i64 0, .slice none 0 0, .int .i64 0, .int .i64 0, .string ⟨#[]⟩, .slice none 0 0, .bool false, .bool false, .int .u32 0, .int .u32 0, .int .u32 0] (by kernel_rfl) ?_)
    | (refine wpList_store_new rfl 51 _ _ rfl (w1.heap.size + 1) #[.bool false, .string ⟨#[]⟩, .string ⟨#[]⟩, .slice none 0 0, .slice none 0 0, .slice none 0 0, .slice none 0 0, .slice none 0 0, .slice none 0 0, .slice none 0 0, .slice none 0 0, .slice none 0 0, .int .i64 0, .slice none 0 0, .int .i64 0, .int .i64 0, .string ⟨#[]⟩, .slice none 0 0, .bool false, .bool false, .int .u32 0, .int .u32 0, .int .u32 0] _ 51 rfl rfl (by simp only [World.size_alloc]) (by exact sizeZ) (by rfl) (by simp [Value.oneCell']) ?_)
    | (refine wpList_load_row rfl 51 _ rfl (w1.heap.size + 1) rfl 51 _ (0, 0) _ (mid_row w1 _ _ _ _) Tryd.underlying51 rfl (by exact sizeZ) ?_)
    | (refine wpList_store_row rfl 51 _ _ rfl w.heap.size _ rfl rfl 51 _ (hbz _ (below3 w1 _ _ _)) (by exact sizeZ) (by rfl) (by simp [Value.oneCell']) ?_)
    | (go_at_call 26; (with_reducible refine (HP.out _ HB0.out).mono ?_); rintro e w1 ⟨u, rfl, hu, hne, bb1⟩; have hbx : Holds w1 w.heap.size 51 #[.bool false, .string ⟨#[]⟩, .string ⟨#[]⟩, .slice none 0 0, .slice none 0 0, .slice none 0 0, .slice none 0 0, .slice none 0 0, .slice none 0 0, .slice none 0 0, .slice none 0 0, .slice none 0 0, .int .i64 0, .slice none 0 0, .int .i64 0, .int .i64 0, .string ⟨#[]⟩, .slice none 0 0, .bool false, .bool false, .int .u32 0, .int .u32 0, .int .u32 0] := (bb1.block _ HN.out.lt).trans HN.out; obtain ⟨b0, n0, c0, e0, l0⟩ := hne 0 (by omega); obtain ⟨b1, n1, c1, e1, l1⟩ := hne 1 (by omega); obtain ⟨b2, n2, c2, e2, l2⟩ := hne 2 (by omega); obtain ⟨b3, n3, c3, e3, l3⟩ := hne 3 (by omega); obtain ⟨b4, n4, c4, e4, l4⟩ := hne 4 (by omega); obtain ⟨b5, n5, c5, e5, l5⟩ := hne 5 (by omega); obtain ⟨b6, n6, c6, e6, l6⟩ := hne 6 (by omega); obtain ⟨b7, n7, c7, e7, l7⟩ := hne 7 (by omega); have HU := Lib.hid hu; have HE := Lib.hid (And.intro e0 (And.intro e1 (And.intro e2 (And.intro e3 (And.intro e4 (And.intro e5 (And.intro e6 e7))))))); have HL := Lib.hid (And.intro l0 (And.intro l1 (And.intro l2 (And.intro l3 (And.intro l4 (And.intro l5 (And.intro l6 l7))))))); have HBB := Lib.hid bb1; unfold agg8; rw [e0, e1, e2, e3, e4, e5, e6, e7]; clear e0 e1 e2 e3 e4 e5 e6 e7 l0 l1 l2 l3 l4 l5 l6 l7 hu hne; have hbz := fun (W : World) (hb : Below w1.heap.size w1 W) => (hb.block _ hbx.lt).trans hbx))
  have d1 := HB0.out.trans (HBB.out.mono HB0.out.size)
  have hlt1 : w.heap.size < w1.heap.size := Nat.lt_of_lt_of_le (by rw [World.size_alloc]; omega) HBB.out.size
  have y1 := first_row w1 (.cells #[.string ⟨#[115, 115, 104, 45, 101, 100, 50, 53, 53, 49, 57]⟩] 9) (.cells #[.bool false, .string ⟨#[112, 108, 97, 105, 110]⟩, .string ⟨#[]⟩, .slice (some ⟨b0, 0, none⟩) n0 c0, .slice (some ⟨b1, 0, none⟩) n1 c1, .slice (some ⟨b2, 0, none⟩) n2 c2, .slice (some ⟨b3, 0, none⟩) n3 c3, .slice (some ⟨b4, 0, none⟩) n4 c4, .slice (some ⟨b5, 0, none⟩) n5 c5, .slice (some ⟨b6, 0, none⟩) n6 c6, .slice (some ⟨b7, 0, none⟩) n7 c7, .slice (some ⟨w1.heap.size, 0, none⟩) 1 1, .int .i64 0, .slice none 0 0, .int .i64 0, .int .i64 host, .string ⟨#[97, 110, 110]⟩, .slice (some ⟨w1.heap.size + 1 + 1, 0, none⟩) 1 1, .bool true, .bool false, .int .u32 2048, .int .u32 3072, .int .u32 8192] 51) (.cells #[.int .i64 8] 3)
  have y3 := last_row w1 (.cells #[.string ⟨#[115, 115, 104, 45, 101, 100, 50, 53, 53, 49, 57]⟩] 9) (.cells #[.bool false, .string ⟨#[112, 108, 97, 105, 110]⟩, .string ⟨#[]⟩, .slice (some ⟨b0, 0, none⟩) n0 c0, .slice (some ⟨b1, 0, none⟩) n1 c1, .slice (some ⟨b2, 0, none⟩) n2 c2, .slice (some ⟨b3, 0, none⟩) n3 c3, .slice (some ⟨b4, 0, none⟩) n4 c4, .slice (some ⟨b5, 0, none⟩) n5 c5, .slice (some ⟨b6, 0, none⟩) n6 c6, .slice (some ⟨b7, 0, none⟩) n7 c7, .slice (some ⟨w1.heap.size, 0, none⟩) 1 1, .int .i64 0, .slice none 0 0, .int .i64 0, .int .i64 host, .string ⟨#[97, 110, 110]⟩, .slice (some ⟨w1.heap.size + 1 + 1, 0, none⟩) 1 1, .bool true, .bool false, .int .u32 2048, .int .u32 3072, .int .u32 8192] 51) (.cells #[.int .i64 8] 3)
  have d3 := below3 w1 (.cells #[.string ⟨#[115, 115, 104, 45, 101, 100, 50, 53, 53, 49, 57]⟩] 9) (.cells #[.bool false, .string ⟨#[112, 108, 97, 105, 110]⟩, .string ⟨#[]⟩, .slice (some ⟨b0, 0, none⟩) n0 c0, .slice (some ⟨b1, 0, none⟩) n1 c1, .slice (some ⟨b2, 0, none⟩) n2 c2, .slice (some ⟨b3, 0, none⟩) n3 c3, .slice (some ⟨b4, 0, none⟩) n4 c4, .slice (some ⟨b5, 0, none⟩) n5 c5, .slice (some ⟨b6, 0, none⟩) n6 c6, .slice (some ⟨b7, 0, none⟩) n7 c7, .slice (some ⟨w1.heap.size, 0, none⟩) 1 1, .int .i64 0, .slice none 0 0, .int .i64 0, .int .i64 host, .string ⟨#[97, 110, 110]⟩, .slice (some ⟨w1.heap.size + 1 + 1, 0, none⟩) 1 1, .bool true, .bool false, .int .u32 2048, .int .u32 3072, .int .u32 8192] 51) (.cells #[.int .i64 8] 3)
  have hR := setRow_heap _ w.heap.size _ #[.bool false, .string ⟨#[112, 108, 97, 105, 110]⟩, .string ⟨#[]⟩, .slice (some ⟨b0, 0, none⟩) n0 c0, .slice (some ⟨b1, 0, none⟩) n1 c1, .slice (some ⟨b2, 0, none⟩) n2 c2, .slice (some ⟨b3, 0, none⟩) n3 c3, .slice (some ⟨b4, 0, none⟩) n4 c4, .slice (some ⟨b5, 0, none⟩) n5 c5, .slice (some ⟨b6, 0, none⟩) n6 c6, .slice (some ⟨b7, 0, none⟩) n7 c7, .slice (some ⟨w1.heap.size, 0, none⟩) 1 1, .int .i64 0, .slice none 0 0, .int .i64 0, .int .i64 host, .string ⟨#[97, 110, 110]⟩, .slice (some ⟨w1.heap.size + 1 + 1, 0, none⟩) 1 1, .bool true, .bool false, .int .u32 2048, .int .u32 3072, .int .u32 8192] _ _ (hbz _ d3)
  obtain ⟨W3, hW3⟩ : ∃ W3, W3 = (((w1.alloc (.cells #[.string ⟨#[115, 115, 104, 45, 101, 100, 50, 53, 53, 49, 57]⟩] 9)).alloc (.cells #[.bool false, .string ⟨#[112, 108, 97, 105, 110]⟩, .string ⟨#[]⟩, .slice (some ⟨b0, 0, none⟩) n0 c0, .slice (some ⟨b1, 0, none⟩) n1 c1, .slice (some ⟨b2, 0, none⟩) n2 c2, .slice (some ⟨b3, 0, none⟩) n3 c3, .slice (some ⟨b4, 0, none⟩) n4 c4, .slice (some ⟨b5, 0, none⟩) n5 c5, .slice (some ⟨b6, 0, none⟩) n6 c6, .slice (some ⟨b7, 0, none⟩) n7 c7, .slice (some ⟨w1.heap.size, 0, none⟩) 1 1, .int .i64 0, .slice none 0 0, .int .i64 0, .int .i64 host, .string ⟨#[97, 110, 110]⟩, .slice (some ⟨w1.heap.size + 1 + 1, 0, none⟩) 1 1, .bool true, .bool false, .int .u32 2048, .int .u32 3072, .int .u32 8192] 51)).alloc (.cells #[.int .i64 8] 3)) := ⟨_, rfl⟩
  rw [← hW3] at y1 y3 d3 hR ⊢
  clear hW3
  refine bodyPost_ret (results_cell_row rfl _ _ w.heap.size _ _ (0, 0) _ rfl hR Tryd.underlying51 rfl (by exact sizeZ)) rfl ?_
  obtain ⟨e0, e1, e2, e3, e4, e5, e6, e7⟩ := HE.out
  obtain ⟨l0, l1, l2, l3, l4, l5, l6, l7⟩ := HL.out
  have hU3 := HU.out.below d3
  have hn1 : w1.heap.size ≠ w.heap.size := by omega
  have hn3 : w1.heap.size + 1 + 1 ≠ w.heap.size := by omega
  refine ⟨{ sv := false, so := ⟨#[112, 108, 97, 105, 110]⟩, co := ⟨#[]⟩, a0 := some ⟨b0, 0, none⟩, n0 := n0, c0 := c0, a1 := some ⟨b1, 0, none⟩, n1 := n1, c1 := c1, a2 := some ⟨b2, 0, none⟩, n2 := n2, c2 := c2, a3 := some ⟨b3, 0, none⟩, n3 := n3, c3 := c3, a4 := some ⟨b4, 0, none⟩, n4 := n4, c4 := c4, a5 := some ⟨b5, 0, none⟩, n5 := n5, c5 := c5, a6 := some ⟨b6, 0, none⟩, n6 := n6, c6 := c6, a7 := some ⟨b7, 0, none⟩, n7 := n7, c7 := c7, aa := some ⟨w1.heap.size, 0, none⟩, na := 1, ca := 1, ow := 0, ag := none, ng := 0, cg := 0, li := 0, pe := host, us := ⟨#[97, 110, 110]⟩, ak := some ⟨w1.heap.size + 1 + 1, 0, none⟩, nk := 1, ck := 1, ex := true, gu := false, w0 := 2048, w1 := 3072, w2 := 8192 }, rfl, ⟨rfl, rfl, rfl, fun k hk => ?_, ?_, ?_, ?_⟩, ⟨rfl, rfl, rfl, rfl, rfl, rfl, rfl, rfl, rfl⟩, fun k hk => ?_, ?_⟩
  · match k, hk with
    | 0, _ =>
      have h := hU3.at_ 0 (by omega)
      rw [e0] at h
      exact texts_row25 h (fun b n c e => by injection e with e; injection e with e; injection e with e; rw [← e]; rw [World.size_alloc] at l0; omega) (fun b off n c e => by injection e with e; injection e with e; injection e with _ e; exact e.symm) _
    | 1, _ =>
      have h := hU3.at_ 1 (by omega)
      rw [e1] at h
      exact texts_row25 h (fun b n c e => by injection e with e; injection e with e; injection e with e; rw [← e]; rw [World.size_alloc] at l1; omega) (fun b off n c e => by injection e with e; injection e with e; injection e with _ e; exact e.symm) _
    | 2, _ =>
      have h := hU3.at_ 2 (by omega)
      rw [e2] at h
      exact texts_row25 h (fun b n c e => by injection e with e; injection e with e; injection e with e; rw [← e]; rw [World.size_alloc] at l2; omega) (fun b off n c e => by injection e with e; injection e with e; injection e with _ e; exact e.symm) _
    | 3, _ =>
      have h := hU3.at_ 3 (by omega)
      rw [e3] at h
      exact texts_row25 h (fun b n c e => by injection e with e; injection e with e; injection e with e; rw [← e]; rw [World.size_alloc] at l3; omega) (fun b off n c e => by injection e with e; injection e with e; injection e with _ e; exact e.symm) _
    | 4, _ =>
      have h := hU3.at_ 4 (by omega)
      rw [e4] at h
      exact texts_row25 h (fun b n c e => by injection e with e; injection e with e; injection e with e; rw [← e]; rw [World.size_alloc] at l4; omega) (fun b off n c e => by injection e with e; injection e with e; injection e with _ e; exact e.symm) _
    | 5, _ =>
      have h := hU3.at_ 5 (by omega)
      rw [e5] at h
      exact texts_row25 h (fun b n c e => by injection e with e; injection e with e; injection e with e; rw [← e]; rw [World.size_alloc] at l5; omega) (fun b off n c e => by injection e with e; injection e with e; injection e with _ e; exact e.symm) _
    | 6, _ =>
      have h := hU3.at_ 6 (by omega)
      rw [e6] at h
      exact texts_row25 h (fun b n c e => by injection e with e; injection e with e; injection e with e; rw [← e]; rw [World.size_alloc] at l6; omega) (fun b off n c e => by injection e with e; injection e with e; injection e with _ e; exact e.symm) _
    | 7, _ =>
      have h := hU3.at_ 7 (by omega)
      rw [e7] at h
      exact texts_row25 h (fun b n c e => by injection e with e; injection e with e; injection e with e; rw [← e]; rw [World.size_alloc] at l7; omega) (fun b off n c e => by injection e with e; injection e with e; injection e with _ e; exact e.symm) _
    | k + 8, h => exact absurd h (by omega)
  · exact texts_one (x := edL) (cell_row y1 hn1 _)
  · exact GrantsAt.nil _
  · exact ids_one (cell_row y3 hn3 _)
  · match k, hk with
    | 0, _ =>
      have h := hU3.room 0 (by omega)
      rw [e0] at h
      exact h
    | 1, _ =>
      have h := hU3.room 1 (by omega)
      rw [e1] at h
      exact h
    | 2, _ =>
      have h := hU3.room 2 (by omega)
      rw [e2] at h
      exact h
    | 3, _ =>
      have h := hU3.room 3 (by omega)
      rw [e3] at h
      exact h
    | 4, _ =>
      have h := hU3.room 4 (by omega)
      rw [e4] at h
      exact h
    | 5, _ =>
      have h := hU3.room 5 (by omega)
      rw [e5] at h
      exact h
    | 6, _ =>
      have h := hU3.room 6 (by omega)
      rw [e6] at h
      exact h
    | 7, _ =>
      have h := hU3.room 7 (by omega)
      rw [e7] at h
      exact h
    | k + 8, h => exact absurd h (by omega)
  · exact below_setRow (d1.trans (d3.mono d1.size)) (Nat.le_refl _) _
end Go.Proofs.YtgoinpibllomfaaDoor
