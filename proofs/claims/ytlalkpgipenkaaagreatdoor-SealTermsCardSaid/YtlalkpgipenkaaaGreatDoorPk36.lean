/- Part 36 of what the statement wants. -/
import Derived.Test.YtlalkpgipenkaaaGreatDoorPk35
namespace Go.Proofs.YtlalkpgipenkaaaGreatDoor
open Go.RowKit

theorem sealR_back : bytesT (termP [21]) = some [21] := by decide +kernel
theorem sealR_len : (cnt sealR).length ≤ 200 := by decide +kernel

/-- Open's conditions. -/
def condO (K V X Y : Nat) : Array Value := #[.func (.func 96) #[] #[.pointer (some ⟨K, 0, none⟩)], .int .i64 8, .func (.func 97) #[] #[.pointer (some ⟨V, 0, none⟩)], .int .i64 8,
  .func (.func 98) #[] #[.pointer (some ⟨V, 0, none⟩), .pointer (some ⟨X, 0, none⟩)], .int .i64 8, .func (.func 99) #[] #[.pointer (some ⟨V, 0, none⟩), .pointer (some ⟨Y, 0, none⟩)], .int .i64 8]
theorem keepCell {w0 W : World} (hW : Below w0.heap.size w0 W) {p : Addr} {v : Value} (h : w0.cell? p = some v) : W.cell? p = some v := (hW.cell (World.block_lt_of_cell? w0 _ h)).trans h

theorem openChecks0 {w : World} {K V X Y G : Nat} {a : Int} {s : ByteArray} {k : Int} (hK : Holds w K 4 #[.bool true]) (hV : Holds w V 60 #[.int .i64 9, .int .i64 a, .int .i64 0, .string s, .slice (some ⟨G, 0, none⟩) 2 2])
    (hX : Holds w X 34 #[.int .i64 k]) (hY : Holds w Y 42 #[.int .u32 0]) (hG : w.cell? ⟨G, 0, none⟩ = some (.int .i64 k)) :
    Calls Tryz.prog 89 #[.slice (some ⟨w.heap.size, 0, none⟩) 4 4] (w.alloc (.cells (condO K V X Y) 136)) fun e w' => e = .returned (.int .i64 0) ∧ Below (w.alloc (.cells (condO K V X Y) 136)).heap.size (w.alloc (.cells (condO K V X Y) 136)) w' := by
  have hC := Holds.new w 136 (condO K V X Y)
  have m : Moves nobody w (w.alloc (.cells (condO K V X Y) 136)) := (Moves.refl nobody w).alloc _
  have gK := (hK.moves m (fun h => h)).cell 0
  have gV0 := (hV.moves m (fun h => h)).cell 0
  have gV2 := (hV.moves m (fun h => h)).cell 2
  have gV4 := (hV.moves m (fun h => h)).cell 4
  have gX := (hX.moves m (fun h => h)).cell 0
  have gY := (hY.moves m (fun h => h)).cell 0
  have gG := keepCell ((Below.refl w.heap.size w).alloc (Nat.le_refl _) (.cells (condO K V X Y) 136)) hG
  generalize w.heap.size = C at *
  generalize w.alloc (.cells (condO K V X Y) 136) = W0 at *
  exact slCheck_open (hC.cell 0) (hC.cell 1) (fun W hW => (slOpen1_any (keepCell hW gK)).mono fun e w' ⟨a, b⟩ => ⟨a, by rw [b]; exact Below.refl _ _⟩)
    (hC.cell 2) (hC.cell 3) (fun W hW => (slOpen2_yes (keepCell hW gV0)).mono fun e w' ⟨a, b⟩ => ⟨a, by rw [b]; exact Below.refl _ _⟩)
    (hC.cell 4) (hC.cell 5) (fun W hW => slOpen3_yes (keepCell hW gV4) (keepCell hW gG) (keepCell hW gX))
    (hC.cell 6) (hC.cell 7) (fun W hW => (slOpen4_yes (keepCell hW gV2) (keepCell hW gY)).mono fun e w' ⟨a, b⟩ => ⟨a, by rw [b]; exact Below.refl _ _⟩)

theorem openChecks1 {w : World} {K V X Y G : Nat} {a : Int} {s : ByteArray} {k : Int} (hK : Holds w K 4 #[.bool true]) (hV : Holds w V 60 #[.int .i64 9, .int .i64 a, .int .i64 0, .string s, .slice (some ⟨G, 0, none⟩) 2 2])
    (hX : Holds w X 34 #[.int .i64 k]) (hY : Holds w Y 42 #[.int .u32 1]) (hG : w.cell? ⟨G, 0, none⟩ = some (.int .i64 k)) :
    Calls Tryz.prog 89 #[.slice (some ⟨w.heap.size, 0, none⟩) 4 4] (w.alloc (.cells (condO K V X Y) 136)) fun e w' => e = .returned (.int .i64 8) ∧ Below (w.alloc (.cells (condO K V X Y) 136)).heap.size (w.alloc (.cells (condO K V X Y) 136)) w' := by
  have hC := Holds.new w 136 (condO K V X Y)
  have m : Moves nobody w (w.alloc (.cells (condO K V X Y) 136)) := (Moves.refl nobody w).alloc _
  have gK := (hK.moves m (fun h => h)).cell 0
  have gV0 := (hV.moves m (fun h => h)).cell 0
  have gV2 := (hV.moves m (fun h => h)).cell 2
  have gV4 := (hV.moves m (fun h => h)).cell 4
  have gX := (hX.moves m (fun h => h)).cell 0
  have gY := (hY.moves m (fun h => h)).cell 0
  have gG := keepCell ((Below.refl w.heap.size w).alloc (Nat.le_refl _) (.cells (condO K V X Y) 136)) hG
  generalize w.heap.size = C at *
  generalize w.alloc (.cells (condO K V X Y) 136) = W0 at *
  exact slCheck_no (hC.cell 0) (hC.cell 1) (fun W hW => (slOpen1_any (keepCell hW gK)).mono fun e w' ⟨a, b⟩ => ⟨a, by rw [b]; exact Below.refl _ _⟩)
    (hC.cell 2) (hC.cell 3) (fun W hW => (slOpen2_yes (keepCell hW gV0)).mono fun e w' ⟨a, b⟩ => ⟨a, by rw [b]; exact Below.refl _ _⟩)
    (hC.cell 4) (hC.cell 5) (fun W hW => slOpen3_yes (keepCell hW gV4) (keepCell hW gG) (keepCell hW gX))
    (hC.cell 6) (hC.cell 7) (fun W hW => (slOpen4_no (keepCell hW gV2) (keepCell hW gY)).mono fun e w' ⟨a, b⟩ => ⟨a, by rw [b]; exact Below.refl _ _⟩)

set_option maxHeartbeats 4000000 in
set_option maxRecDepth 100000 in
theorem slOpen_ex0 {A : Nat} {L : List Ent} {F : Nat → Prop} {w0 w : World} (h0 : Below w0.heap.size w0 w) (ha : ArenaAt w0.heap.size A L F w) (hG : Good L) {k : Nat} (hk : k < L.length) (hek : enc L k = refKeyL 1) (hT : TabAt w0) (hV : VarAt w0) (hl : L.length ≤ 600000000) :
    Calls Tryz.prog 39 #[.pointer (some ⟨A, 0, none⟩), .int .i64 (k : Int), .int .u32 0, .string (bs (cnt sealR))] w fun e w' => ∃ L', e = .returned (.tuple #[.string (bs [21]), .int .i64 0]) ∧ (Good L' ∧ L <+: L' ∧ L'.length ≤ L.length + 10000) ∧ Left w0.heap.size A L' F w w' := by
  have hgm := hV.pos
  have hsl := sealR_len
  have HPB : Hid (∀ (L3 : List Ent) (F3 : Nat → Prop) (W : World) (y : Nat), ArenaAt w0.heap.size A L3 F3 W → Good L3 → TAt L3 (y : Int) (termP [21]) → Below w0.heap.size w0 W → Calls Tryz.prog 10 #[.pointer (some ⟨A, 0, none⟩), .int .i64 (y : Int)] W fun e w' => e = .returned (.tuple #[.string (bs [21]), .bool true]) ∧ Below W.heap.size W w') := fun L3 F3 W y a3 g3 hy hb =>
    (pBytes_any a3 g3 hy (hT.below hb) (hV.below hb hgm)).mono fun e w' ⟨hb, s, is, he, his, hs⟩ => by
      rw [sealR_back] at his hs
      have := hs _ rfl
      subst this
      subst his
      exact ⟨he, hb⟩
  have h0s := h0.size
  -- the boxes of key and number
  have h1 := Holds.new w 34 #[.int .i64 (k : Int)]
  have s1 : (w.alloc (.cells #[.int .i64 (k : Int)] 34)).heap.size = w.heap.size + 1 := World.size_alloc _ _
  have m1 : Below w.heap.size w (w.alloc (.cells #[.int .i64 (k : Int)] 34)) := (Below.refl _ w).alloc (Nat.le_refl _) _
  have h2 := Holds.new (w.alloc (.cells #[.int .i64 (k : Int)] 34)) 42 #[.int .u32 0]
  have m2 : Below w.heap.size w ((w.alloc (.cells #[.int .i64 (k : Int)] 34)).alloc (.cells #[.int .u32 0] 42)) := m1.alloc m1.size _
  have h1' := h1.moves (Moves.refl nobody _ |>.alloc (.cells #[.int .u32 0] 42)) (fun h => h)
  rw [s1] at h2
  have HW : ∃ W0, Hid (W0 = (w.alloc (.cells #[.int .i64 (k : Int)] 34)).alloc (.cells #[.int .u32 0] 42)) := ⟨_, Lib.hid rfl⟩
  obtain ⟨W0, HW⟩ := HW
  rw [← HW.out] at h2 m2 h1'
  have HX := Lib.hid h1'
  have HY := Lib.hid h2
  have HB0 := Lib.hid m2
  have HH := Lib.hid (slHas_some (ha.below m2) hk)
  have HTm := Lib.hid (fun (W : World) (hb : Below w.heap.size w W) => slTerm_any (ha.below hb) hG (cnt sealR) (by omega) (by omega))
  rw [sealR_unit] at HTm
  simp only at HTm
  have hFw : ∀ i, F i → i < w.heap.size := fun i hi => (ha.lt i hi).2
  have HFw := Lib.hid hFw
  have HGr : Hid (∀ m, Grown L m sealR (10 * (cnt sealR).length + 1) → (Good m.2 ∧ L <+: m.2 ∧ m.2.length ≤ L.length + 10000) ∧ ∃ (i : Nat) (e : Ent), m.1 = i ∧ m.2[i]? = some e ∧ e.sh.kind = 9 ∧ e.sh.b = 0 ∧ ∃ x y, e.sh.args = [x, y] ∧ x = k ∧ TAt m.2 (y : Int) (termP [21])) := fun m hg => by
    refine ⟨⟨hg.good, hg.pre, by have := hg.more; omega⟩, ?_⟩
    rcases hg.is with ⟨_, h⟩ | ⟨i, h1, h2, h3⟩
    · exact absurd h sealR_ne
    · obtain ⟨e1, e2, x, y, e3, e4, e5⟩ := seal_node hg.good (List.getElem?_eq_getElem h2) h3.symm
      have hok := (hg.good.wf.ok i _ (List.getElem?_eq_getElem h2)).args
      rw [e3] at hok
      have hx := hok x (by simp)
      have hy := hok y (by simp)
      refine ⟨i, _, h1, List.getElem?_eq_getElem h2, e1, e2, x, y, e3, ?_, .inr ⟨y, rfl, by omega, e5.symm⟩⟩
      have tx : TAt m.2 (x : Int) (refKeyL 1) := .inr ⟨x, rfl, by omega, e4.symm⟩
      have tk : TAt m.2 (k : Int) (refKeyL 1) := TAt.pre (.inr ⟨k, rfl, hk, hek.symm⟩ : TAt L (k : Int) (refKeyL 1)) hg.good hg.pre
      have := (tx.same hg.good tk).2 rfl
      omega
  have HFB := Lib.hid (fun i hi => (ha.lt i hi).1)
  have H0 := Lib.hid h0
  clear h1 s1 m1 h2 m2 h1' hFw hT hV hgm hsl ha hG hek hl h0
  generalize bs (cnt sealR) = S at *
  go_enter Tryz.func39, Tryz.ntmps39
  go_wp2_with fail
  rw [← HW.out]
  go_at_call 93
  (with_reducible refine HH.out.mono ?_)
  rintro e w1 ⟨rfl, b1⟩
  have b01 : Below w.heap.size w w1 := HB0.out.trans (b1.mono HB0.out.size)
  have mK := Moves.ofBelow (S := nobody) b1
  have HX1 := Lib.hid (HX.out.moves mK (fun h => h))
  have HY1 := Lib.hid (HY.out.moves mK (fun h => h))
  have HB1 := Lib.hid b01
  clear b1 b01 mK HX HY HH
  go_wp2_with fail
  have hK2 := Holds.new w1 4 #[.bool true]
  have b02 : Below w.heap.size w (w1.alloc (.cells #[.bool true] 4)) := HB1.out.alloc HB1.out.size _
  have m12 : Moves nobody w1 (w1.alloc (.cells #[.bool true] 4)) := (Moves.refl nobody w1).alloc _
  have HK2 := Lib.hid hK2
  have HX2 := Lib.hid (HX1.out.moves m12 (fun h => h))
  have HY2 := Lib.hid (HY1.out.moves m12 (fun h => h))
  have HB2 := Lib.hid b02
  have hNK : w.heap.size ≤ w1.heap.size := HB1.out.size
  clear hK2 b02 m12 HX1 HY1
  generalize w1.alloc (.cells #[.bool true] 4) = W2 at *
  obtain ⟨K, hKK⟩ : ∃ K, K = w1.heap.size := ⟨_, rfl⟩
  rw [← hKK] at hNK HK2 ⊢
  clear hKK HB1
  go_at_call 18
  (with_reducible refine (HTm.out _ HB2.out).mono ?_)
  rintro e w3 ⟨m, rfl, hg, hl3⟩
  obtain ⟨hgood, i, en, hi, he, hk9, hb0, x, y, hargs, hx, hy⟩ := HGr.out m hg
  obtain ⟨F3, a3, mv3, f3⟩ := hl3
  have nF : ∀ j, w.heap.size ≤ j → ¬ F j := fun j hj hF => by have := HFw.out j hF; omega
  have HX3 := Lib.hid (HX2.out.moves mv3 (nF _ (Nat.le_refl _)))
  have HY3 := Lib.hid (HY2.out.moves mv3 (nF _ (by omega)))
  have HK3 := Lib.hid (HK2.out.moves mv3 (nF _ hNK))
  have b03 : Below w0.heap.size w0 w3 := (H0.out.trans (HB2.out.mono h0s)).trans (mv3.below (by have := HB2.out.size; omega) HFB.out)
  have hL3 : Left w0.heap.size A m.2 F w w3 := ⟨F3, a3, (Moves.ofBelow HB2.out : Moves F w W2).trans mv3 (fun i hi => .inl hi), fun j hj => (f3 j hj).imp_right (fun h => Nat.le_trans HB2.out.size h)⟩
  have HVw : Hid (Calls Tryz.prog 24 #[.pointer (some ⟨A, 0, none⟩), .int .i64 (i : Int)] w3 fun r w' => ∃ g, r = .returned (.tuple #[.agg #[.int .i64 9, .int .i64 (en.sh.a : Int), .int .i64 0, .string en.sh.s, .slice (some ⟨g, 0, none⟩) 2 2], .bool true]) ∧ (w'.cell? ⟨g, 0, none⟩ = some (.int .i64 (k : Int)) ∧ w'.cell? ⟨g, 1, none⟩ = some (.int .i64 (y : Int))) ∧ Below w3.heap.size w3 w') :=
    (View_some a3 he).mono fun r w' ⟨g, h1, h2, h3⟩ => by
      unfold nodeV at h1
      rw [hargs] at h1 h2
      rw [hk9, hb0] at h1
      refine ⟨g, h1, ?_, h3⟩
      have c0 := h2.cells (g := g) rfl 0 (.int .i64 (x : Int)) rfl
      have c1 := h2.cells (g := g) rfl 1 (.int .i64 (y : Int)) rfl
      rw [Addr.add_lit, Nat.zero_add] at c0 c1
      rw [← hx]
      exact ⟨c0, c1⟩
  rw [hi]
  have HA3 := Lib.hid a3
  have HB3 := Lib.hid b03
  have HL3 := Lib.hid hL3
  have HGd := Lib.hid hgood
  have HYt := Lib.hid hy
  clear hi he hk9 hb0 hargs hx hy a3 mv3 f3 hg b03 hL3 hgood HTm HGr HX2 HY2 HK2 HB2 nF
  generalize (en.sh.a : Int) = ea at *
  generalize en.sh.s = es at *
  go_wp2_with fail
  go_at_call 24
  (with_reducible refine HVw.out.mono ?_)
  rintro r w4 ⟨g, rfl, ⟨cg0, cg1⟩, b4⟩
  have hV5 := Holds.new w4 60 #[.int .i64 9, .int .i64 ea, .int .i64 0, .string es, .slice (some ⟨g, 0, none⟩) 2 2]
  have mv4 := (Moves.ofBelow (S := nobody) b4).alloc (.cells #[.int .i64 9, .int .i64 ea, .int .i64 0, .string es, .slice (some ⟨g, 0, none⟩) 2 2] 60)
  have b35 : Below w3.heap.size w3 (w4.alloc (.cells #[.int .i64 9, .int .i64 ea, .int .i64 0, .string es, .slice (some ⟨g, 0, none⟩) 2 2] 60)) := b4.alloc b4.size _
  have q0 := keepCell ((Below.refl w4.heap.size w4).alloc (Nat.le_refl _) (.cells #[.int .i64 9, .int .i64 ea, .int .i64 0, .string es, .slice (some ⟨g, 0, none⟩) 2 2] 60)) cg0
  have q1 := keepCell ((Below.refl w4.heap.size w4).alloc (Nat.le_refl _) (.cells #[.int .i64 9, .int .i64 ea, .int .i64 0, .string es, .slice (some ⟨g, 0, none⟩) 2 2] 60)) cg1
  have HCk := Lib.hid (openChecks0 (HK3.out.moves mv4 (fun h => h)) hV5 (HX3.out.moves mv4 (fun h => h)) (HY3.out.moves mv4 (fun h => h)) q0)
  have HV5 := Lib.hid hV5
  have HQ1 := Lib.hid q1
  have HB35 := Lib.hid b35
  clear hV5 mv4 b35 q0 q1 cg0 cg1 b4 HVw HK3 HX3 HY3
  go_wp2_with fail
  have hck := HCk.out
  have e5 : (w4.alloc (.cells #[.int .i64 9, .int .i64 ea, .int .i64 0, .string es, .slice (some ⟨g, 0, none⟩) 2 2] 60)).heap.size = w4.heap.size + 1 := World.size_alloc _ _
  rw [e5] at hck
  unfold condO at hck
  have HCk2 := Lib.hid hck
  clear hck HCk
  obtain ⟨V, hVV⟩ : ∃ V, V = w4.heap.size := ⟨_, rfl⟩
  rw [← hVV] at HV5 HCk2 e5 ⊢
  generalize w4.alloc (.cells #[.int .i64 9, .int .i64 ea, .int .i64 0, .string es, .slice (some ⟨g, 0, none⟩) 2 2] 60) = W5 at *
  have HB56 : Hid (∀ o, Below W5.heap.size W5 (W5.alloc o)) := fun o => (Below.refl W5.heap.size W5).alloc (Nat.le_refl _) o
  have HE5 := Lib.hid e5
  clear hVV e5
  go_at_call 89
  (with_reducible refine HCk2.out.mono ?_)
  rintro r w7 ⟨rfl, b7⟩
  have b57 : Below W5.heap.size W5 w7 := (HB56.out _).trans (b7.mono (HB56.out _).size)
  have b37 := HB35.out.trans (b57.mono HB35.out.size)
  clear b7 HCk2
  have c4 := keepCell b57 (HV5.out.cell 4)
  have cy := keepCell b57 HQ1.out
  have HPb := Lib.hid (HPB.out _ _ w7 y (HA3.out.below b37) HGd.out.1 HYt.out (HB3.out.trans (b37.mono (by have := HB3.out.size; omega))))
  have qs : (bs [21]).toList.isEmpty = false := by rw [ByteArray.toList_eq]; rfl
  have HLd := Lib.hid (left_down HL3.out b37)
  clear b57 b37 HV5 HQ1 HB35 HPB HB56
  generalize hT21 : bs [21] = T at *
  have HT21 := Lib.hid hT21
  clear hT21
  go_wp2_with (go_at_call 10; (with_reducible refine HPb.out.mono ?_); rintro r w8 ⟨rfl, b8⟩)
  go_ret2
  exact ⟨_, by rw [HT21.out]; rfl, HGd.out, left_down HLd.out b8⟩

set_option maxHeartbeats 4000000 in
set_option maxRecDepth 100000 in
theorem slOpen_ex1 {A : Nat} {L : List Ent} {F : Nat → Prop} {w0 w : World} (h0 : Below w0.heap.size w0 w) (ha : ArenaAt w0.heap.size A L F w) (hG : Good L) {k : Nat} (hk : k < L.length) (hek : enc L k = refKeyL 1) (hT : TabAt w0) (hV : VarAt w0) (hl : L.length ≤ 600000000) :
    Calls Tryz.prog 39 #[.pointer (some ⟨A, 0, none⟩), .int .i64 (k : Int), .int .u32 1, .string (bs (cnt sealR))] w fun e w' => ∃ L', e = .returned (.tuple #[.string ⟨#[]⟩, .int .i64 8]) ∧ (Good L' ∧ L <+: L' ∧ L'.length ≤ L.length + 10000) ∧ Left w0.heap.size A L' F w w' := by
  have hgm := hV.pos
  have hsl := sealR_len
  have h0s := h0.size
  -- the boxes of key and number
  have h1 := Holds.new w 34 #[.int .i64 (k : Int)]
  have s1 : (w.alloc (.cells #[.int .i64 (k : Int)] 34)).heap.size = w.heap.size + 1 := World.size_alloc _ _
  have m1 : Below w.heap.size w (w.alloc (.cells #[.int .i64 (k : Int)] 34)) := (Below.refl _ w).alloc (Nat.le_refl _) _
  have h2 := Holds.new (w.alloc (.cells #[.int .i64 (k : Int)] 34)) 42 #[.int .u32 1]
  have m2 : Below w.heap.size w ((w.alloc (.cells #[.int .i64 (k : Int)] 34)).alloc (.cells #[.int .u32 1] 42)) := m1.alloc m1.size _
  have h1' := h1.moves (Moves.refl nobody _ |>.alloc (.cells #[.int .u32 1] 42)) (fun h => h)
  rw [s1] at h2
  have HW : ∃ W0, Hid (W0 = (w.alloc (.cells #[.int .i64 (k : Int)] 34)).alloc (.cells #[.int .u32 1] 42)) := ⟨_, Lib.hid rfl⟩
  obtain ⟨W0, HW⟩ := HW
  rw [← HW.out] at h2 m2 h1'
  have HX := Lib.hid h1'
  have HY := Lib.hid h2
  have HB0 := Lib.hid m2
  have HH := Lib.hid (slHas_some (ha.below m2) hk)
  have HTm := Lib.hid (fun (W : World) (hb : Below w.heap.size w W) => slTerm_any (ha.below hb) hG (cnt sealR) (by omega) (by omega))
  rw [sealR_unit] at HTm
  simp only at HTm
  have hFw : ∀ i, F i → i < w.heap.size := fun i hi => (ha.lt i hi).2
  have HFw := Lib.hid hFw
  have HGr : Hid (∀ m, Grown L m sealR (10 * (cnt sealR).length + 1) → (Good m.2 ∧ L <+: m.2 ∧ m.2.length ≤ L.length + 10000) ∧ ∃ (i : Nat) (e : Ent), m.1 = i ∧ m.2[i]? = some e ∧ e.sh.kind = 9 ∧ e.sh.b = 0 ∧ ∃ x y, e.sh.args = [x, y] ∧ x = k ∧ TAt m.2 (y : Int) (termP [21])) := fun m hg => by
    refine ⟨⟨hg.good, hg.pre, by have := hg.more; omega⟩, ?_⟩
    rcases hg.is with ⟨_, h⟩ | ⟨i, h1, h2, h3⟩
    · exact absurd h sealR_ne
    · obtain ⟨e1, e2, x, y, e3, e4, e5⟩ := seal_node hg.good (List.getElem?_eq_getElem h2) h3.symm
      have hok := (hg.good.wf.ok i _ (List.getElem?_eq_getElem h2)).args
      rw [e3] at hok
      have hx := hok x (by simp)
      have hy := hok y (by simp)
      refine ⟨i, _, h1, List.getElem?_eq_getElem h2, e1, e2, x, y, e3, ?_, .inr ⟨y, rfl, by omega, e5.symm⟩⟩
      have tx : TAt m.2 (x : Int) (refKeyL 1) := .inr ⟨x, rfl, by omega, e4.symm⟩
      have tk : TAt m.2 (k : Int) (refKeyL 1) := TAt.pre (.inr ⟨k, rfl, hk, hek.symm⟩ : TAt L (k : Int) (refKeyL 1)) hg.good hg.pre
      have := (tx.same hg.good tk).2 rfl
      omega
  have HFB := Lib.hid (fun i hi => (ha.lt i hi).1)
  have H0 := Lib.hid h0
  clear h1 s1 m1 h2 m2 h1' hFw hT hV hgm hsl ha hG hek hl h0
  generalize bs (cnt sealR) = S at *
  go_enter Tryz.func39, Tryz.ntmps39
  go_wp2_with fail
  rw [← HW.out]
  go_at_call 93
  (with_reducible refine HH.out.mono ?_)
  rintro e w1 ⟨rfl, b1⟩
  have b01 : Below w.heap.size w w1 := HB0.out.trans (b1.mono HB0.out.size)
  have mK := Moves.ofBelow (S := nobody) b1
  have HX1 := Lib.hid (HX.out.moves mK (fun h => h))
  have HY1 := Lib.hid (HY.out.moves mK (fun h => h))
  have HB1 := Lib.hid b01
  clear b1 b01 mK HX HY HH
  go_wp2_with fail
  have hK2 := Holds.new w1 4 #[.bool true]
  have b02 : Below w.heap.size w (w1.alloc (.cells #[.bool true] 4)) := HB1.out.alloc HB1.out.size _
  have m12 : Moves nobody w1 (w1.alloc (.cells #[.bool true] 4)) := (Moves.refl nobody w1).alloc _
  have HK2 := Lib.hid hK2
  have HX2 := Lib.hid (HX1.out.moves m12 (fun h => h))
  have HY2 := Lib.hid (HY1.out.moves m12 (fun h => h))
  have HB2 := Lib.hid b02
  have hNK : w.heap.size ≤ w1.heap.size := HB1.out.size
  clear hK2 b02 m12 HX1 HY1
  generalize w1.alloc (.cells #[.bool true] 4) = W2 at *
  obtain ⟨K, hKK⟩ : ∃ K, K = w1.heap.size := ⟨_, rfl⟩
  rw [← hKK] at hNK HK2 ⊢
  clear hKK HB1
  go_at_call 18
  (with_reducible refine (HTm.out _ HB2.out).mono ?_)
  rintro e w3 ⟨m, rfl, hg, hl3⟩
  obtain ⟨hgood, i, en, hi, he, hk9, hb0, x, y, hargs, hx, hy⟩ := HGr.out m hg
  obtain ⟨F3, a3, mv3, f3⟩ := hl3
  have nF : ∀ j, w.heap.size ≤ j → ¬ F j := fun j hj hF => by have := HFw.out j hF; omega
  have HX3 := Lib.hid (HX2.out.moves mv3 (nF _ (Nat.le_refl _)))
  have HY3 := Lib.hid (HY2.out.moves mv3 (nF _ (by omega)))
  have HK3 := Lib.hid (HK2.out.moves mv3 (nF _ hNK))
  have b03 : Below w0.heap.size w0 w3 := (H0.out.trans (HB2.out.mono h0s)).trans (mv3.below (by have := HB2.out.size; omega) HFB.out)
  have hL3 : Left w0.heap.size A m.2 F w w3 := ⟨F3, a3, (Moves.ofBelow HB2.out : Moves F w W2).trans mv3 (fun i hi => .inl hi), fun j hj => (f3 j hj).imp_right (fun h => Nat.le_trans HB2.out.size h)⟩
  have HVw : Hid (Calls Tryz.prog 24 #[.pointer (some ⟨A, 0, none⟩), .int .i64 (i : Int)] w3 fun r w' => ∃ g, r = .returned (.tuple #[.agg #[.int .i64 9, .int .i64 (en.sh.a : Int), .int .i64 0, .string en.sh.s, .slice (some ⟨g, 0, none⟩) 2 2], .bool true]) ∧ (w'.cell? ⟨g, 0, none⟩ = some (.int .i64 (k : Int)) ∧ w'.cell? ⟨g, 1, none⟩ = some (.int .i64 (y : Int))) ∧ Below w3.heap.size w3 w') :=
    (View_some a3 he).mono fun r w' ⟨g, h1, h2, h3⟩ => by
      unfold nodeV at h1
      rw [hargs] at h1 h2
      rw [hk9, hb0] at h1
      refine ⟨g, h1, ?_, h3⟩
      have c0 := h2.cells (g := g) rfl 0 (.int .i64 (x : Int)) rfl
      have c1 := h2.cells (g := g) rfl 1 (.int .i64 (y : Int)) rfl
      rw [Addr.add_lit, Nat.zero_add] at c0 c1
      rw [← hx]
      exact ⟨c0, c1⟩
  rw [hi]
  have HA3 := Lib.hid a3
  have HB3 := Lib.hid b03
  have HL3 := Lib.hid hL3
  have HGd := Lib.hid hgood
  have HYt := Lib.hid hy
  clear hi he hk9 hb0 hargs hx hy a3 mv3 f3 hg b03 hL3 hgood HTm HGr HX2 HY2 HK2 HB2 nF
  generalize (en.sh.a : Int) = ea at *
  generalize en.sh.s = es at *
  go_wp2_with fail
  go_at_call 24
  (with_reducible refine HVw.out.mono ?_)
  rintro r w4 ⟨g, rfl, ⟨cg0, cg1⟩, b4⟩
  have hV5 := Holds.new w4 60 #[.int .i64 9, .int .i64 ea, .int .i64 0, .string es, .slice (some ⟨g, 0, none⟩) 2 2]
  have mv4 := (Moves.ofBelow (S := nobody) b4).alloc (.cells #[.int .i64 9, .int .i64 ea, .int .i64 0, .string es, .slice (some ⟨g, 0, none⟩) 2 2] 60)
  have b35 : Below w3.heap.size w3 (w4.alloc (.cells #[.int .i64 9, .int .i64 ea, .int .i64 0, .string es, .slice (some ⟨g, 0, none⟩) 2 2] 60)) := b4.alloc b4.size _
  have q0 := keepCell ((Below.refl w4.heap.size w4).alloc (Nat.le_refl _) (.cells #[.int .i64 9, .int .i64 ea, .int .i64 0, .string es, .slice (some ⟨g, 0, none⟩) 2 2] 60)) cg0
  have q1 := keepCell ((Below.refl w4.heap.size w4).alloc (Nat.le_refl _) (.cells #[.int .i64 9, .int .i64 ea, .int .i64 0, .string es, .slice (some ⟨g, 0, none⟩) 2 2] 60)) cg1
  have HCk := Lib.hid (openChecks1 (HK3.out.moves mv4 (fun h => h)) hV5 (HX3.out.moves mv4 (fun h => h)) (HY3.out.moves mv4 (fun h => h)) q0)
  have HV5 := Lib.hid hV5
  have HQ1 := Lib.hid q1
  have HB35 := Lib.hid b35
  clear hV5 mv4 b35 q0 q1 cg0 cg1 b4 HVw HK3 HX3 HY3
  go_wp2_with fail
  have hck := HCk.out
  have e5 : (w4.alloc (.cells #[.int .i64 9, .int .i64 ea, .int .i64 0, .string es, .slice (some ⟨g, 0, none⟩) 2 2] 60)).heap.size = w4.heap.size + 1 := World.size_alloc _ _
  rw [e5] at hck
  unfold condO at hck
  have HCk2 := Lib.hid hck
  clear hck HCk
  obtain ⟨V, hVV⟩ : ∃ V, V = w4.heap.size := ⟨_, rfl⟩
  rw [← hVV] at HV5 HCk2 e5 ⊢
  generalize w4.alloc (.cells #[.int .i64 9, .int .i64 ea, .int .i64 0, .string es, .slice (some ⟨g, 0, none⟩) 2 2] 60) = W5 at *
  have HB56 : Hid (∀ o, Below W5.heap.size W5 (W5.alloc o)) := fun o => (Below.refl W5.heap.size W5).alloc (Nat.le_refl _) o
  have HE5 := Lib.hid e5
  clear hVV e5
  go_at_call 89
  (with_reducible refine HCk2.out.mono ?_)
  rintro r w7 ⟨rfl, b7⟩
  have b57 : Below W5.heap.size W5 w7 := (HB56.out _).trans (b7.mono (HB56.out _).size)
  have b37 := HB35.out.trans (b57.mono HB35.out.size)
  clear b7 HCk2
  have HLd := Lib.hid (left_down HL3.out b37)
  clear b57 b37 HV5 HQ1 HB35 HB56
  go_wp2_with fail
  go_ret2
  exact ⟨_, rfl, HGd.out, HLd.out⟩

end Go.Proofs.YtlalkpgipenkaaaGreatDoor

namespace Go.Proofs.YtlalkpgipenkaaaGreatDoor
open Go.RowKit

/-- Block A is a good arena, all of it made behind w0. -/
structure SlAt (w0 : World) (A : Nat) (L : List Ent) (w : World) : Prop where
  ar : ∃ F, ArenaAt w0.heap.size A L F w
  bel : Below w0.heap.size w0 w
  good : Good L
theorem SlAt.left {w0 w w' : World} {A : Nat} {L L' : List Ent} {F : Nat → Prop} (h : SlAt w0 A L w) (ha : ArenaAt w0.heap.size A L F w) (hl : Left w0.heap.size A L' F w w') (hg : Good L') : SlAt w0 A L' w' := by
  obtain ⟨F', a', m, f⟩ := hl
  exact ⟨⟨F', a'⟩, h.bel.trans (m.below h.bel.size (fun i hi => (ha.lt i hi).1)), hg⟩
theorem sl_key {w0 w : World} {A : Nat} {L : List Ent} (h : SlAt w0 A L w) (hl : L.length ≤ 500000000) :
    Calls Tryz.prog 38 #[.pointer (some ⟨A, 0, none⟩), .int .i64 1] w fun r w' => ∃ (k : Nat) (L' : List Ent), r = .returned (.int .i64 (k : Int)) ∧ (k < L'.length ∧ enc L' k = refKeyL 1 ∧ L'.length ≤ L.length + 1) ∧ SlAt w0 A L' w' := by
  obtain ⟨F, ha⟩ := h.ar
  refine (Key_any ha (by omega) 1).mono fun r w' ⟨h1, h2⟩ => ?_
  have hs := key_same h.good (by omega) 1
  rcases hs.is with ⟨_, h3⟩ | ⟨k, h3, h4, h5⟩
  · exact absurd h3 (by decide)
  · exact ⟨k, _, by rw [h1, h3], ⟨h4, h5.symm, hs.more⟩, h.left ha h2 hs.good⟩
theorem sl_pack {w0 w : World} {A : Nat} {L : List Ent} (h : SlAt w0 A L w) (hl : L.length ≤ 500000000) {k : Nat} (hk : k < L.length) (he : enc L k = refKeyL 1) (hT : TabAt w0) (hV : VarAt w0) :
    Calls Tryz.prog 37 #[.pointer (some ⟨A, 0, none⟩), .int .i64 (k : Int), .int .u32 0, .string ⟨#[21]⟩] w fun r w' => ∃ L', r = .returned (.tuple #[.string (bs (cnt sealR)), .int .i64 0]) ∧ L'.length ≤ L.length + 10000000 ∧ SlAt w0 A L' w' := by
  obtain ⟨F, ha⟩ := h.ar
  have hR : refSealL (enc L k) 0 (termP [21]) = sealR := by rw [he]; rfl
  have := slPack_some ha h.good hk 0 (by omega) [21] (by decide) (by decide) (hT.below h.bel) (hV.below h.bel hV.pos) (by omega) (by rw [hR]; exact sealR_ne)
  rw [hR] at this
  exact this.mono fun r w' ⟨m, h1, h2, h3⟩ => ⟨m.2, h1, h2.more, h.left ha h3 h2.good⟩
theorem sl_open0 {w0 w : World} {A : Nat} {L : List Ent} (h : SlAt w0 A L w) (hl : L.length ≤ 500000000) {k : Nat} (hk : k < L.length) (he : enc L k = refKeyL 1) (hT : TabAt w0) (hV : VarAt w0) :
    Calls Tryz.prog 39 #[.pointer (some ⟨A, 0, none⟩), .int .i64 (k : Int), .int .u32 0, .string (bs (cnt sealR))] w fun r w' => ∃ L', r = .returned (.tuple #[.string (bs [21]), .int .i64 0]) ∧ L'.length ≤ L.length + 10000000 ∧ SlAt w0 A L' w' := by
  obtain ⟨F, ha⟩ := h.ar
  exact (slOpen_ex0 h.bel ha h.good hk he hT hV (by omega)).mono fun r w' ⟨L', h1, ⟨h2, _, h4⟩, h3⟩ => ⟨L', h1, by omega, h.left ha h3 h2⟩
theorem sl_open1 {w0 w : World} {A : Nat} {L : List Ent} (h : SlAt w0 A L w) (hl : L.length ≤ 500000000) {k : Nat} (hk : k < L.length) (he : enc L k = refKeyL 1) (hT : TabAt w0) (hV : VarAt w0) :
    Calls Tryz.prog 39 #[.pointer (some ⟨A, 0, none⟩), .int .i64 (k : Int), .int .u32 1, .string (bs (cnt sealR))] w fun r w' => ∃ L', r = .returned (.tuple #[.string ⟨#[]⟩, .int .i64 8]) ∧ L'.length ≤ L.length + 10000000 ∧ SlAt w0 A L' w' := by
  obtain ⟨F, ha⟩ := h.ar
  exact (slOpen_ex1 h.bel ha h.good hk he hT hV (by omega)).mono fun r w' ⟨L', h1, ⟨h2, _, h4⟩, h3⟩ => ⟨L', h1, by omega, h.left ha h3 h2⟩

set_option maxHeartbeats 1000000 in
set_option maxRecDepth 100000 in
theorem awake12_any {w : World} (hT : TabAt w) (hV : VarAt w) : Calls Tryz.prog 17 #[] w fun e w' => e = .returned (.bool true) ∧ Below w.heap.size w w' := by
  have HN : Hid (Calls Tryz.prog 8 #[] w fun e w' => ∃ A, e = .returned (.pointer (some ⟨A, 0, none⟩)) ∧ SlAt w A [] w') := (New_any w).mono fun e w' ⟨A, F, h1, h2, h3⟩ => ⟨A, h1, ⟨F, h2⟩, h3, Good.nil⟩
  have HK : Hid (∀ (A : Nat) (L : List Ent) (W : World), SlAt w A L W → L.length ≤ 500000000 → _) := fun A L W h hl => sl_key h hl
  have HP : Hid (∀ (A : Nat) (L : List Ent) (W : World) (k : Nat), SlAt w A L W → L.length ≤ 500000000 → k < L.length → enc L k = refKeyL 1 → _) := fun A L W k h hl hk he => sl_pack h hl hk he hT hV
  have HO0 : Hid (∀ (A : Nat) (L : List Ent) (W : World) (k : Nat), SlAt w A L W → L.length ≤ 500000000 → k < L.length → enc L k = refKeyL 1 → _) := fun A L W k h hl hk he => sl_open0 h hl hk he hT hV
  have HO1 : Hid (∀ (A : Nat) (L : List Ent) (W : World) (k : Nat), SlAt w A L W → L.length ≤ 500000000 → k < L.length → enc L k = refKeyL 1 → _) := fun A L W k h hl hk he => sl_open1 h hl hk he hT hV
  have hq : ((bs [21]).toList == [21]) = true := by rw [ByteArray.toList_eq]; rfl
  clear hT hV
  generalize bs (cnt sealR) = S at *
  generalize bs [21] = T at *
  go_enter Tryz.func17, Tryz.ntmps17
  go_wp2_with fail
  go_at_call 8
  (with_reducible refine HN.out.mono ?_)
  rintro e w1 ⟨A, rfl, s1⟩
  have K1 := Lib.hid (HK.out A [] w1 s1 (by simp))
  clear s1 HN
  go_wp2_with fail
  go_at_call 38
  (with_reducible refine K1.out.mono ?_)
  rintro e w2 ⟨k1, L1, rfl, ⟨hk1, he1, hl1⟩, s2⟩
  have P1 := Lib.hid (HP.out A L1 w2 k1 s2 (by simp at hl1; omega) hk1 he1)
  have hl1 : L1.length ≤ 10 := by simp at hl1; omega
  clear s2 K1 hk1 he1
  go_wp2_with fail
  go_at_call 37
  (with_reducible refine P1.out.mono ?_)
  rintro e w3 ⟨L2, rfl, hl2, s3⟩
  have K2 := Lib.hid (HK.out A L2 w3 s3 (by omega))
  clear s3 P1
  go_wp2_with fail
  go_at_call 38
  (with_reducible refine K2.out.mono ?_)
  rintro e w4 ⟨k2, L3, rfl, ⟨hk3, he3, hl3⟩, s4⟩
  have O0 := Lib.hid (HO0.out A L3 w4 k2 s4 (by omega) hk3 he3)
  clear s4 K2 hk3 he3
  go_wp2_with fail
  go_at_call 39
  (with_reducible refine O0.out.mono ?_)
  rintro e w5 ⟨L4, rfl, hl4, s5⟩
  have K3 := Lib.hid (HK.out A L4 w5 s5 (by omega))
  clear s5 O0
  go_wp2_with fail
  go_at_call 38
  (with_reducible refine K3.out.mono ?_)
  rintro e w6 ⟨k3, L5, rfl, ⟨hk5, he5, hl5⟩, s6⟩
  have O1 := Lib.hid (HO1.out A L5 w6 k3 s6 (by omega) hk5 he5)
  clear s6 K3 hk5 he5 hl1 hl2 hl3 hl4 hl5
  go_wp2_with fail
  go_at_call 39
  (with_reducible refine O1.out.mono ?_)
  rintro e w7 ⟨L6, rfl, hl6, s7⟩
  have B7 := Lib.hid s7.bel
  clear hl6 s7 O1
  go_wp2_with fail
  go_ret
  exact ⟨rfl, B7.out⟩
end Go.Proofs.YtlalkpgipenkaaaGreatDoor
