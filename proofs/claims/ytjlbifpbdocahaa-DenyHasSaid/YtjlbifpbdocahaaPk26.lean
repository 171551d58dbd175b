/- Part 26 of what the statement wants. -/
import Derived.BigQuiet
import Derived.Deep.RegionHeld3
import Derived.Test.YtjlbifpbdocahaaPk22
import Derived.Test.YtjlbifpbdocahaaPk23
import Derived.Test.YtjlbifpbdocahaaPk25
namespace Go.Proofs.Ytjlbifpbdocahaa
open Go.RowKit


/-- View of what is no term. -/
theorem gone_row (w : World) : Holds (w.alloc (.cells #[.int .i64 0, .int .i64 0, .int .i64 0, .string ⟨#[]⟩, .slice none 0 0] 73)) w.heap.size 73 #[.int .i64 0, .int .i64 0, .int .i64 0, .string ⟨#[]⟩, .slice none 0 0] := Holds.new w _ _
set_option maxHeartbeats 2000000 in
theorem View_gone {p : Value} {i : Int} {w : World} (hh : ∀ W : World, Below w.heap.size w W → Calls Try.prog 56 #[p, .int .i64 i] W fun e w' => e = .returned (.bool false) ∧ W = w') :
    Calls Try.prog 31 #[p, .int .i64 i] w fun r w' => r = .returned (.tuple #[noNode, .bool false]) ∧ Below w.heap.size w w' := by
  have HH := Lib.hid (hh _ ((Below.refl _ _).alloc (Nat.le_refl _) (.cells #[.int .i64 0, .int .i64 0, .int .i64 0, .string ⟨#[]⟩, .slice none 0 0] 73)))
  have HN := Lib.hid (gone_row w)
  have HB : Hid (Below w.heap.size w (w.alloc (.cells #[.int .i64 0, .int .i64 0, .int .i64 0, .string ⟨#[]⟩, .slice none 0 0] 73))) := (Below.refl _ _).alloc (Nat.le_refl _) _
  clear hh
  go_enter Try.func31, Try.ntmps31
  go_wp2_with (go_at_call 56; with_reducible refine HH.out.mono ?_; rintro e w1 ⟨rfl, hw⟩; have hN := HN.out; have hB := HB.out; rw [hw] at hN hB; clear HH HN HB hw; have c0 := hN.cell 0; have c1 := hN.cell 1; have c2 := hN.cell 2; have c3 := hN.cell 3; have c4 := hN.cell 4; have f0 := hN.frozen 0; have f1 := hN.frozen 1; have f2 := hN.frozen 2; have f3 := hN.frozen 3; have f4 := hN.frozen 4)
  have hNf := Holds.set (Holds.set (Holds.set (Holds.set (Holds.set hN 0 (.int .i64 0)) 1 (.int .i64 0)) 2 (.int .i64 0)) 3 (.string ⟨#[]⟩)) 4 (.slice none 0 0)
  refine bodyPost_ret (v := .tuple #[noNode, .bool false]) ?_ rfl ⟨rfl, ?_⟩
  · exact run_cell_tmp rfl _ _ w.heap.size _ _ _ rfl rfl hNf Try.underlying73 rfl (by kernel_rfl)
  · exact ((((hB.setCell (p := ⟨w.heap.size, 0, none⟩) (Nat.le_refl _) _).setCell (p := ⟨w.heap.size, 1, none⟩) (Nat.le_refl _) _).setCell (p := ⟨w.heap.size, 2, none⟩) (Nat.le_refl _) _).setCell (p := ⟨w.heap.size, 3, none⟩) (Nat.le_refl _) _).setCell (p := ⟨w.heap.size, 4, none⟩) (Nat.le_refl _) _
theorem View_nil (i : Int) (w : World) : Calls Try.prog 31 #[.pointer none, .int .i64 i] w fun r w' => r = .returned (.tuple #[noNode, .bool false]) ∧ Below w.heap.size w w' :=
  View_gone fun W _ => has_nil i W

theorem rnode_row (w : World) : Holds (w.alloc (.cells #[.int .i64 0, .int .i64 0, .int .i64 0, .string ⟨#[]⟩, .slice none 0 0] 130)) w.heap.size 130 #[.int .i64 0, .int .i64 0, .int .i64 0, .string ⟨#[]⟩, .slice none 0 0] := Holds.new w _ _
set_option maxRecDepth 100000 in
theorem refView_any (d : List UInt8) (hd : d.length ≤ 1000000) (hne : ∀ x ∈ (nodeOf d).args, x ≠ []) (w : World) : Calls Try.prog 86 #[.string (bs d)] w fun e w' => ∃ v, e = .returned (rnodeV (nodeOf d) v) ∧ TextsAt w' v ((nodeOf d).args.map bs) ∧ Below w.heap.size w w' := by
  have HP : Hid (∀ W : World, Calls Try.prog 92 #[.string (bs d), .int .i64 0] W fun e w' => ∃ (ao : Option Addr) (nn cap : Nat) (en : Int) (ok : Bool), e = .returned (.tuple #[.agg #[.int .i64 (nodeOf d).k, .int .i64 ((nodeOf d).a : Int), .int .i64 ((nodeOf d).b : Int), .string (bs (nodeOf d).s), .slice ao nn cap], .int .i64 en, .bool ok]) ∧ TextsAt w' (.slice ao nn cap) ((nodeOf d).args.map bs) ∧ Below W.heap.size W w') := fun W =>
    (Parse_any d hd W).mono fun e w' ⟨v, h1, h2, h3⟩ => by
      obtain ⟨ao, cap, rfl, hc⟩ := id h2
      exact ⟨ao, _, cap, _, _, h1, h2, h3⟩
  have HN := Lib.hid (rnode_row w)
  have HB : Hid (Below w.heap.size w (w.alloc (.cells #[.int .i64 0, .int .i64 0, .int .i64 0, .string ⟨#[]⟩, .slice none 0 0] 130))) := (Below.refl _ _).alloc (Nat.le_refl _) _
  generalize nodeOf d = nd at *
  obtain ⟨xk, xa, xb, xs, l⟩ := nd
  unfold rnodeV
  simp only at *
  have HL := Lib.hid hne
  clear hne
  generalize bs xs = S at *
  generalize (xa : Int) = a at *
  generalize (xb : Int) = b at *
  go_enter Try.func86, Try.ntmps86
  go_wp2_with (go_at_call 92; with_reducible refine (HP.out _).mono ?_; rintro e w1 ⟨ao, nn, cap, en, ok, rfl, hT, b1⟩; have hN1 := Holds.moves HN.out (Moves.ofBelow (S := nobody) b1) (fun h => h); have hB := HB.out.trans (b1.mono HB.out.size); clear HN HB b1; have hN := Holds.moves hN1 ((Moves.refl nobody w1).alloc (.cells #[.int .i64 xk, .int .i64 a, .int .i64 b, .string S, .slice ao nn cap] 130)) (fun h => h); have c0 := hN.cell 0; have c1 := hN.cell 1; have c2 := hN.cell 2; have c3 := hN.cell 3; have c4 := hN.cell 4; have f0 := hN.frozen 0; have f1 := hN.frozen 1; have f2 := hN.frozen 2; have f3 := hN.frozen 3; have f4 := hN.frozen 4)
  have hNf := Holds.set (Holds.set (Holds.set (Holds.set (Holds.set hN 0 (.int .i64 xk)) 1 (.int .i64 a)) 2 (.int .i64 b)) 3 (.string S)) 4 (.slice ao nn cap)
  have ma : Moves (fun i => i = w.heap.size) w1 (w1.alloc (.cells #[.int .i64 xk, .int .i64 a, .int .i64 b, .string S, .slice ao nn cap] 130)) := (Moves.refl _ w1).alloc _
  have mf := ((((ma.setCell (p := ⟨w.heap.size, 0, none⟩) (.inl rfl) (.int .i64 xk)).setCell (p := ⟨w.heap.size, 1, none⟩) (.inl rfl) (.int .i64 a)).setCell (p := ⟨w.heap.size, 2, none⟩) (.inl rfl) (.int .i64 b)).setCell (p := ⟨w.heap.size, 3, none⟩) (.inl rfl) (.string S)).setCell (p := ⟨w.heap.size, 4, none⟩) (.inl rfl) (.slice ao nn cap)
  refine bodyPost_ret (v := .agg #[.int .i64 xk, .int .i64 a, .int .i64 b, .string S, .slice ao nn cap]) ?_ rfl ⟨_, rfl, ?_, ?_⟩
  · exact results_cell_row rfl _ _ w.heap.size _ _ (0, 0) _ rfl hNf Try.underlying130 rfl (by kernel_rfl)
  · by_cases hl : l = []
    · subst hl
      obtain ⟨ao', cap', he, _⟩ := hT
      exact ⟨ao', cap', he, fun h => absurd rfl h⟩
    · refine hT.keep mf.size fun b' off c i hv hb => mf.cell (p := ⟨b', i, none⟩) hb (fun e => ?_)
      have e' : b' = w.heap.size := e
      obtain ⟨ao', cap', he, hc⟩ := hT
      obtain ⟨b2, off2, rfl, hb2, hcell⟩ := hc (by simpa using hl)
      have h0 := hcell 0 (bs (l[0]'(List.length_pos_iff.2 hl))) (by simp [List.getElem?_eq_getElem (List.length_pos_iff.2 hl)])
      rw [hv] at he
      simp only [Value.slice.injEq, Option.some.injEq, Addr.mk.injEq] at he
      obtain ⟨⟨hbb, _, _⟩, _⟩ := he
      rw [← hbb, e', Holds.cell hN1] at h0
      have hx := HL.out _ (List.getElem_mem (List.length_pos_iff.2 hl))
      have : off2 = 0 ∨ off2 = 1 ∨ off2 = 2 ∨ off2 = 3 ∨ off2 = 4 ∨ 5 ≤ off2 := by omega
      rcases this with rfl | rfl | rfl | rfl | rfl | h5
      · simp at h0
      · simp at h0
      · simp at h0
      · simp at h0
        exact hx (bs_inj (h0.symm.trans rfl))
      · simp at h0
      · rw [Nat.add_zero, List.getElem?_toArray, List.getElem?_eq_none (by simpa using h5)] at h0
        cases h0
  · exact hB.trans (mf.below hB.size (fun i hi => by omega))

end Go.Proofs.Ytjlbifpbdocahaa

namespace Go.Proofs.Ytjlbifpbdocahaa
open Go.RowKit

end Go.Proofs.Ytjlbifpbdocahaa

namespace Go.Proofs.Ytjlbifpbdocahaa
open Go.RowKit

theorem key_node {x : Nat} (h : x ≤ 2147483647) : kindL (refKeyL (x : Int)) = 3 ∧ nodeOf (refKeyL (x : Int)) = ⟨3, x, 0, [], []⟩ := by
  have hs := key_same Good.nil (by simp) (x : Int)
  have e1 := keyL_key h
  rcases hs.is with ⟨_, e⟩ | ⟨n, _, hn, e⟩
  · rw [e1] at e; cases e
  · have he : (keyM [] (x : Int)).2[n]? = some _ := List.getElem?_eq_getElem hn
    have hk : kindL (refKeyL (x : Int)) = 3 := by rw [e1]; rfl
    obtain ⟨a, ha, hsh⟩ := sh3 (hs.good.sh n _ he) (by rw [← (kind_enc0 hs.good hn).1, ← e]; exact hk)
    refine ⟨hk, ?_⟩
    have e2 : enc (keyM [] (x : Int)).2 n = 243 :: pack4 a := by
      rw [hs.good.enc_eq he, hsh]
      rfl
    have e3 := e1.symm.trans (e.trans e2)
    simp only [List.cons.injEq, true_and] at e3
    have e4 := (pack4_app (a := x) (b := a) (x := []) (y := []) (by omega) (by omega) (by rw [e3])).1
    rw [e, nodeOf_enc hs.good he, hsh, e4]
    rfl
theorem owner_pub {x : Nat} (h : x ≤ 2147483647) : ownerP (pubL (x : Int)) = ((x : Int), true) := by
  have e := pubL_pub h
  have hk : kindL (pubL (x : Int)) = 4 := by rw [e]; rfl
  unfold ownerP
  rw [if_pos hk, e, List.drop_succ_cons, List.drop_zero, ← keyL_key h, (key_node h).2]
/-- A text that is a public key only as one that is made. -/
def PubOk (t : List UInt8) : Prop := kindL t = 4 → ∃ x : Nat, x ≤ 2147483647 ∧ t = pubL (x : Int)
theorem keyL_short (who : Int) : (refKeyL who).length ≤ 100 := by
  by_cases hw : 0 ≤ who ∧ who ≤ 2147483647
  · obtain ⟨x, rfl⟩ : ∃ x : Nat, who = x := ⟨who.toNat, by omega⟩
    rw [keyL_key (by omega)]
    simp [pack4]
  · rw [keyL_out (by omega)]
    simp
set_option maxRecDepth 100000 in
theorem r22Pub_any (who : Int) (w : World) : Calls Try.prog 26 #[.int .i64 who] w fun e w' => e = .returned (.string (bs (pubL who))) ∧ Below w.heap.size w w' := by
  have HK := Lib.hid (fun W => refKey_any who W)
  have HP : Hid (∀ W : World, Calls Try.prog 54 #[.string (bs (refKeyL who))] W fun e w' => e = .returned (.string (bs (pubL who))) ∧ Below W.heap.size W w') := fun W => refPub_any (refKeyL who) (by have := keyL_short who; omega) W
  generalize pubL who = T at *
  generalize refKeyL who = K at *
  go_enter Try.func26, Try.ntmps26
  go_wp2_with (first
    | (go_at_call 55; (with_reducible refine (HK.out _).mono ?_); rintro e w1 ⟨rfl, b1⟩)
    | (go_at_call 54; (with_reducible refine (HP.out _).mono ?_); rintro e w2 ⟨rfl, b2⟩; have c2 := b1.trans (b2.mono b1.size)))
  go_ret
  exact ⟨rfl, c2⟩
theorem slice_one (b : UInt8) (r : List UInt8) (W : World) : (Instr.slice 9 (.string (bs (b :: r))) (some (.int .i64 1)) none none).run Try.prog W = .ok (.string (bs r)) W := by
  have hsz := bs_size (b :: r)
  rw [List.length_cons] at hsz
  rw [run_slice_string_l W 9 (bs (b :: r)) Try.underlying9 .i64 1 (by omega) (by omega)]
  have h : (bs (b :: r)).extract (1 : Int).toNat (bs (b :: r)).size = bs r := by
    apply ByteArray.ext
    apply Array.toList_inj.1
    rw [ByteArray.data_extract, Array.toList_extract, hsz]
    simp [bs, List.extract]
  first | rw [h] | (simp only [h])
set_option maxRecDepth 100000 in
theorem field_rn1 (k0 a0 b0 : Int) (s0 : ByteArray) (ao : Option Addr) (n cap : Nat) (W : World) : (Instr.field 130 (.agg #[.int .i64 k0, .int .i64 a0, .int .i64 b0, .string s0, .slice ao n cap]) 1).run Try.prog W = .ok (.int .i64 a0) W := by
  kernel_rfl
set_option maxRecDepth 100000 in
theorem r22Owner_any (t : List UInt8) (hT : PubOk t) (w : World) : Calls Try.prog 52 #[.string (bs t)] w fun e w' => e = .returned (.tuple #[.int .i64 (ownerP t).1, .bool (ownerP t).2]) ∧ Below w.heap.size w w' := by
  have HK := Lib.hid (fun W => refKind_any t W)
  have HR : Hid (Below w.heap.size w w) := Below.refl _ _
  by_cases h4 : kindL t = 4
  · obtain ⟨x, hx, e⟩ := hT h4
    have ho : ownerP t = ((x : Int), true) := by rw [e]; exact owner_pub hx
    rw [ho]
    have e1 : t = 244 :: refKeyL (x : Int) := by rw [e, pubL_pub hx, keyL_key hx]
    have hs : ∀ W : World, (Instr.slice 9 (.string (bs t)) (some (.int .i64 1)) none none).run Try.prog W = .ok (.string (bs (refKeyL (x : Int)))) W := fun W => by rw [e1]; exact slice_one _ _ W
    have HV : Hid (∀ W : World, Calls Try.prog 86 #[.string (bs (refKeyL (x : Int)))] W fun e w' => ∃ ao cap, e = .returned (.agg #[.int .i64 3, .int .i64 (x : Int), .int .i64 0, .string ⟨#[]⟩, .slice ao 0 cap]) ∧ Below W.heap.size W w') := fun W => by
      have hn := (key_node hx).2
      refine (refView_any (refKeyL (x : Int)) (by have := keyL_short (x : Int); omega) (by rw [hn]; simp) W).mono fun e w' ⟨v, h1, h2, h3⟩ => ?_
      rw [hn] at h1 h2
      obtain ⟨ao, cap, rfl, _⟩ := h2
      exact ⟨ao, cap, h1, h3⟩
    rw [h4] at HK
    have HK2 : Hid (∀ W : World, Calls Try.prog 85 #[.string (bs t)] W fun e w' => e = .returned (.int .i64 4) ∧ w' = W) := HK
    clear e e1 ho hT h4 hx HK
    generalize bs t = T at *
    generalize bs (refKeyL (x : Int)) = K at *
    generalize (x : Int) = X at *
    go_enter Try.func52, Try.ntmps52
    go_wp2_with (first
      | (go_at_call 85; (with_reducible refine (HK2.out _).mono ?_); rintro e w1 ⟨rfl, rfl⟩)
      | (go_at_call 86; (with_reducible refine (HV.out _).mono ?_); rintro e w2 ⟨ao, cap, rfl, b2⟩; have gf := field_rn1 3 X 0 ⟨#[]⟩ ao 0 cap)
      | fail)
    go_ret2
    exact ⟨rfl, b2⟩
  · have ho : ownerP t = (0, false) := if_neg h4
    rw [ho]
    have q5 : ((kindL t : Int) != 4) = true := by rw [bne_iff_ne]; omega
    clear ho h4 hT
    generalize (kindL t : Int) = K at *
    generalize bs t = T at *
    go_enter Try.func52, Try.ntmps52
    go_wp2_with (go_at_call 85; (with_reducible refine (HK.out _).mono ?_); rintro e w1 ⟨rfl, rfl⟩)
    go_ret2
    exact ⟨rfl, HR.out⟩
end Go.Proofs.Ytjlbifpbdocahaa
