/- Part 33 of what the statement wants. -/
import Derived.Test.YtgoinpibllomfaaDoorPk20
import Derived.Test.YtgoinpibllomfaaDoorPk21
import Derived.Test.YtgoinpibllomfaaDoorPk32
namespace Go.Proofs.YtgoinpibllomfaaDoor
open Go.RowKit

set_option maxHeartbeats 8000000 in
set_option maxRecDepth 100000 in
theorem ConfCopies_any {w : World} (hT : Tab15 w) {c : CfV} {d : CfL} (h : CfAt w c d) (h8 : Eight w c.u d.p) (hm : CfBig d) (sv : Bool) (host : Int) :
    Calls Tryd.prog 5 #[.agg c.row, .bool sv, .int .i64 host] w fun e w' => e = .returned (.bool true) ∧ Below w.heap.size w w' := by
  obtain ⟨W0, hW0⟩ : ∃ W0, Hid (W0 = w.alloc (.cells c.row 51)) := ⟨_, Lib.hid rfl⟩
  have b0 : Below w.heap.size w W0 := by rw [hW0.out]; exact (Below.refl _ _).alloc (Nat.le_refl _) _
  have hX : Holds W0 w.heap.size 51 c.row := by rw [hW0.out]; exact Holds.new w _ _
  have HBx : Hid (∀ W, Below W0.heap.size W0 W → Holds W w.heap.size 51 c.row) := fun W hb => (hb.block _ hX.lt).trans hX
  have HAw : Hid (∀ W, Below W0.heap.size W0 W → Calls Tryd.prog 19 #[] W fun e w' => e = .returned (.bool true) ∧ Below W.heap.size W w') := fun W hb => awake25_any ((hT.below b0).below hb)
  have HFw := few25_any (h.below b0) (h8.below b0) hm
  have HB0 := Lib.hid b0
  have hXl := Lib.hid hX
  by_cases hf : Few25 d
  · have HF : Hid (Calls Tryd.prog 18 #[.agg c.row] W0 fun e w' => e = .returned (.bool true) ∧ Below W0.heap.size W0 w') := HFw.mono fun e w' ⟨z, h1, h2, h3⟩ => ⟨by rw [h1, h2.2 hf], h3⟩
    have hl : ∀ k < 8, (d.p k).length ≤ 1000 := fun k hk => by have := (hf.p k hk).1; omega
    have hal : d.al.length ≤ 1000 := by have := hf.al; omega
    have hgr : d.gr.length ≤ 1000 := by have := hf.gr; omega
    have hks : d.ks.length ≤ 1000 := by have := hf.ks; omega
    have HC : Hid (∀ (W : World) (c1 : CfV) (R : Array Value), R = c1.row → CfAt W c1 d → Calls Tryd.prog 23 #[.agg R] W fun e w' => ∃ c2, e = .returned (.agg c2.row) ∧ CopyOf c1 d (W.heap.size + 2) w' c2 ∧ Below W.heap.size W w') := fun W c1 R hR hc => by rw [hR]; exact cfCopy_any hc hl hal hgr hks
    have HS : Hid (∀ (W : World) (c1 : CfV) (R : Array Value), R = c1.row → Below W0.heap.size W0 W → CfAt W c1 d → Alike25 c c1 → Calls Tryd.prog 24 #[.agg c.row, .agg R] W fun e w' => e = .returned (.bool true) ∧ Below W.heap.size W w') := fun W c1 R hR hb hc ha => by rw [hR]; exact same25_any ((h.below b0).below hb) hc ha hl hal hgr hks
    have HA0 := Lib.hid (h.below b0)
    have nal : d.al.length ≤ 20 := hf.al
    have ngr : d.gr.length ≤ 20 := hf.gr
    have nks : d.ks.length ≤ 20 := hf.ks
    have nho : (d.p 1).length ≤ 1000 := hl 1 (by omega)
    have NL := Lib.hid (And.intro nal (And.intro ngr (And.intro nks nho)))
    have HT0 := Lib.hid (hT.below b0)
    clear hT h h8 hm b0 hX HFw hf hl hal hgr hks nal ngr nks nho
    go_enter Tryd.func5, Tryd.ntmps5
    go_upto_region 3 with (first
      | (refine wpList_load_row rfl 51 _ rfl w.heap.size rfl 51 c.row (0, 0) _ (by rw [← hW0.out]; exact hXl.out) Tryd.underlying51 rfl (by exact sizeConfRow) ?_)
      | (go_at_call 18; rw [← hW0.out]; (with_reducible refine HF.out.mono ?_); rintro e w1 ⟨rfl, b1⟩; have B1 := Lib.hid b1))
    clear b1
    go_upto_region 4 with (first
      | (refine wpList_load_row rfl 51 _ rfl w.heap.size rfl 51 c.row (0, 0) _ (by exact HBx.out _ B1.out) Tryd.underlying51 rfl (by exact sizeConfRow) ?_)
      | (go_at_call 23; (with_reducible refine (HC.out _ c _ rfl (HA0.out.below B1.out)).mono ?_); rintro e w2 ⟨c1, rfl, k1, b2⟩; have HK1 := Lib.hid k1; have B2 := Lib.hid (B1.out.trans (b2.mono B1.out.size)); clear k1 b2; obtain ⟨R1, hR1⟩ : ∃ R, Hid (R = c1.row) := ⟨_, Lib.hid rfl⟩; rw [← hR1.out])
      | (refine wpList_store_new rfl 51 _ _ rfl w2.heap.size #[.bool false, .string ⟨#[]⟩, .string ⟨#[]⟩, .slice none 0 0, .slice none 0 0, .slice none 0 0, .slice none 0 0, .slice none 0 0, .slice none 0 0, .slice none 0 0, .slice none 0 0, .slice none 0 0, .int .i64 0, .slice none 0 0, .int .i64 0, .int .i64 0, .string ⟨#[]⟩, .slice none 0 0, .bool false, .bool false, .int .u32 0, .int .u32 0, .int .u32 0] R1 51 rfl rfl rfl (by rw [hR1.out]; exact sizeConfRow) (by rw [hR1.out]; rfl) (by rw [hR1.out]; exact c1.row_one) ?_))
    have HX1 := Lib.hid (Holds.new w2 51 R1)
    have B3 := Lib.hid (B2.out.alloc B2.out.size (.cells R1 51))
    have HA1 := Lib.hid (HK1.out.at_.below ((Below.refl w2.heap.size w2).alloc (Nat.le_refl _) (.cells R1 51)))
    have HAl := Lib.hid (show Alike25 c c1 from HK1.out.same)
    obtain ⟨E1, hE1⟩ : ∃ E, Hid (E = w2.heap.size) := ⟨_, Lib.hid rfl⟩
    rw [← hE1.out] at HX1 ⊢
    generalize w2.alloc (.cells R1 51) = W3 at *
    clear HK1 B2 B1 hE1
    have HX3 : Hid (∀ W, Below W3.heap.size W3 W → Holds W E1 51 R1) := fun W hb => (hb.block _ HX1.out.lt).trans HX1.out
    have HS3 : Hid (∀ W, Below W3.heap.size W3 W → Calls Tryd.prog 24 #[.agg c.row, .agg R1] W fun e w' => e = .returned (.bool true) ∧ Below W.heap.size W w') := fun W hb => HS.out W c1 R1 hR1.out (B3.out.trans (hb.mono B3.out.size)) (HA1.out.below hb) HAl.out
    have B30 := Lib.hid (Below.refl W3.heap.size W3)
    go_upto_region 6 with (first
      | (refine wpList_load_row rfl 51 _ rfl w.heap.size rfl 51 c.row (0, 0) _ (by exact HBx.out _ B3.out) Tryd.underlying51 rfl (by exact sizeConfRow) ?_)
      | (refine wpList_load_row rfl 51 _ rfl E1 rfl 51 R1 (0, 0) _ (by exact HX1.out) Tryd.underlying51 rfl (by rw [hR1.out]; exact sizeConfRow) ?_)
      | (go_at_call 24; (with_reducible refine (HS3.out _ B30.out).mono ?_); rintro e w4 ⟨rfl, b4⟩; have B4 := Lib.hid b4; clear b4))
    go_upto_region 7 with (first
      | (refine wpList_load_row rfl 51 _ rfl E1 rfl 51 R1 (0, 0) _ (by exact HX3.out _ B4.out) Tryd.underlying51 rfl (by rw [hR1.out]; exact sizeConfRow) ?_)
      | (go_at_call 23; (with_reducible refine (HC.out _ c1 _ hR1.out (HA1.out.below B4.out)).mono ?_); rintro e w5 ⟨c2, rfl, k2, b5⟩; have HK2 := Lib.hid k2; have B5 := Lib.hid b5; clear k2 b5; obtain ⟨R2, hR2⟩ : ∃ R, Hid (R = c2.row) := ⟨_, Lib.hid rfl⟩; rw [← hR2.out])
      | (refine wpList_store_new rfl 51 _ _ rfl w5.heap.size #[.bool false, .string ⟨#[]⟩, .string ⟨#[]⟩, .slice none 0 0, .slice none 0 0, .slice none 0 0, .slice none 0 0, .slice none 0 0, .slice none 0 0, .slice none 0 0, .slice none 0 0, .slice none 0 0, .int .i64 0, .slice none 0 0, .int .i64 0, .int .i64 0, .string ⟨#[]⟩, .slice none 0 0, .bool false, .bool false, .int .u32 0, .int .u32 0, .int .u32 0] R2 51 rfl rfl rfl (by rw [hR2.out]; exact sizeConfRow) (by rw [hR2.out]; rfl) (by rw [hR2.out]; exact c2.row_one) ?_))
    have M0 := Lib.hid (Mine25.start B5.out HK2.out (by omega) B5.out.size)
    rw [← hR2.out] at M0
    have N2 := Lib.hid (And.intro (texts_len HK2.out.at_.al) (And.intro (grants_len HK2.out.at_.gr) (And.intro (ids_len HK2.out.at_.ks) (texts_len (c := c2.c1) (HK2.out.at_.pf 1 (by omega))))))
    obtain ⟨E2, hE2⟩ : ∃ E, Hid (E = w5.heap.size) := ⟨_, Lib.hid rfl⟩
    rw [← hE2.out] at M0 ⊢
    generalize w5.alloc (.cells R2 51) = W6 at *
    clear HK2 B5 hE2 HA1 HAl HS HC
    have HNA := Lib.hid (show c2.na ≤ 1000 by have := N2.out.1; have := NL.out.1; rw [List.length_map] at *; omega)
    have HNG := Lib.hid (show c2.ng ≤ 1000 by have := N2.out.2.1; have := NL.out.2.1; omega)
    have HNK := Lib.hid (show c2.nk ≤ 1000 by have := N2.out.2.2.1; have := NL.out.2.2.1; omega)
    have HNH := Lib.hid (show c2.n1 ≤ 1000 by have := N2.out.2.2.2; have := NL.out.2.2.2; rw [List.length_map] at *; omega)
    clear N2 NL
    go_wp2_with fail
    go_loopw [9] (fun i wr => ∃ k : Nat, k ≤ c2.na ∧ i = .int .i64 (k : Int) ∧ Mine25 w4 w4.heap.size E2 c2 wr) (fun i _ => c2.na - (intOf i).toNat)
    case atStart => exact ⟨0, Nat.zero_le _, rfl, M0.out⟩
    case round =>
      obtain ⟨k, hk0, rfl, hM⟩ := hrel
      have hnb0 := HNA.out
      have y0 : wr.cell? ⟨E2, 11, none⟩ = some (.slice c2.aa c2.na c2.ca) := hM.box.cell 11
      by_cases hlt0 : k < c2.na
      · obtain ⟨b, off, cur, e, hB, hE, hh, hs⟩ := hM.al (by omega)
        rw [e] at y0
        have q10 : decide ((k : Int) < (c2.na : Int)) = true := decide_eq_true (by omega)
        have hlo : (0 : Int) ≤ (k : Int) := by omega
        have hhi : (k : Int) < (c2.na : Int) := by omega
        have hu : wr.cell? ⟨b, off + k, none⟩ = some (cur[off + k]'(by omega)) := (hh.cell _).trans (Array.getElem?_eq_getElem _)
        generalize cur[off + k]'(by omega) = u at hu
        have hf : wr.frozen? ⟨b, off + k, none⟩ = false := hh.frozen _
        have MM := Lib.hid (hM.set hB hE (off + k) (.string ⟨#[99, 104, 97, 110, 103, 101, 100]⟩))
        clear hM hh hs hB hE e
        go_wp2_with fail
        go_roundw
        case rel => exact ⟨k + 1, by omega, by go_num, MM.out⟩
        case measure => simp [intOf]; omega
      · have q10 : decide ((k : Int) < (c2.na : Int)) = false := decide_eq_false (by omega)
        have M1 := Lib.hid hM
        clear hM HNA M0
        go_wp2_with fail
        clear hk0 hnb0 y0 hlt0 q10
        go_loopw [10] (fun i wr => ∃ k : Nat, k ≤ c2.ng ∧ i = .int .i64 (k : Int) ∧ Mine25 w4 w4.heap.size E2 c2 wr) (fun i _ => c2.ng - (intOf i).toNat)
        case atStart => exact ⟨0, Nat.zero_le _, rfl, M1.out⟩
        case round =>
          obtain ⟨k, hk1, rfl, hM⟩ := hrel
          have hnb1 := HNG.out
          have y1 : wr.cell? ⟨E2, 13, none⟩ = some (.slice c2.ag c2.ng c2.cg) := hM.box.cell 13
          by_cases hlt1 : k < c2.ng
          · obtain ⟨b, off, cur, e, hB, hE, hh, hs⟩ := hM.gr (by omega)
            rw [e] at y1
            have q11 : decide ((k : Int) < (c2.ng : Int)) = true := decide_eq_true (by omega)
            have hlo : (0 : Int) ≤ (k : Int) := by omega
            have hhi : (k : Int) < (c2.ng : Int) := by omega
            have hu : wr.cell? ⟨b, off + k * 2 + 1, none⟩ = some (cur[off + k * 2 + 1]'(by omega)) := (hh.cell _).trans (Array.getElem?_eq_getElem _)
            generalize cur[off + k * 2 + 1]'(by omega) = u at hu
            have hf : wr.frozen? ⟨b, off + k * 2 + 1, none⟩ = false := hh.frozen _
            have MM := Lib.hid (hM.set hB hE (off + k * 2 + 1) (.int .i64 (-7)))
            clear hM hh hs hB hE e
            go_wp2_with fail
            go_roundw
            case rel => exact ⟨k + 1, by omega, by go_num, MM.out⟩
            case measure => simp [intOf]; omega
          · have q11 : decide ((k : Int) < (c2.ng : Int)) = false := decide_eq_false (by omega)
            have M2 := Lib.hid hM
            clear hM HNG M1
            go_wp2_with fail
            clear hk1 hnb1 y1 hlt1 q11
            go_loopw [11] (fun i wr => ∃ k : Nat, k ≤ c2.nk ∧ i = .int .i64 (k : Int) ∧ Mine25 w4 w4.heap.size E2 c2 wr) (fun i _ => c2.nk - (intOf i).toNat)
            case atStart => exact ⟨0, Nat.zero_le _, rfl, M2.out⟩
            case round =>
              obtain ⟨k, hk2, rfl, hM⟩ := hrel
              have hnb2 := HNK.out
              have y2 : wr.cell? ⟨E2, 17, none⟩ = some (.slice c2.ak c2.nk c2.ck) := hM.box.cell 17
              by_cases hlt2 : k < c2.nk
              · obtain ⟨b, off, cur, e, hB, hE, hh, hs⟩ := hM.ks (by omega)
                rw [e] at y2
                have q12 : decide ((k : Int) < (c2.nk : Int)) = true := decide_eq_true (by omega)
                have hlo : (0 : Int) ≤ (k : Int) := by omega
                have hhi : (k : Int) < (c2.nk : Int) := by omega
                have hu : wr.cell? ⟨b, off + k, none⟩ = some (cur[off + k]'(by omega)) := (hh.cell _).trans (Array.getElem?_eq_getElem _)
                generalize cur[off + k]'(by omega) = u at hu
                have hf : wr.frozen? ⟨b, off + k, none⟩ = false := hh.frozen _
                have MM := Lib.hid (hM.set hB hE (off + k) (.int .i64 (-7)))
                clear hM hh hs hB hE e
                go_wp2_with fail
                go_roundw
                case rel => exact ⟨k + 1, by omega, by go_num, MM.out⟩
                case measure => simp [intOf]; omega
              · have q12 : decide ((k : Int) < (c2.nk : Int)) = false := decide_eq_false (by omega)
                have M3 := Lib.hid hM
                clear hM HNK M2
                go_wp2_with fail
                clear hk2 hnb2 y2 hlt2 q12
                go_loopw [12] (fun i wr => ∃ k : Nat, k ≤ c2.n1 ∧ i = .int .i64 (k : Int) ∧ Mine25 w4 w4.heap.size E2 c2 wr) (fun i _ => c2.n1 - (intOf i).toNat)
                case atStart => exact ⟨0, Nat.zero_le _, rfl, M3.out⟩
                case round =>
                  obtain ⟨k, hk3, rfl, hM⟩ := hrel
                  have hnb3 := HNH.out
                  have y3 : wr.cell? ⟨E2, 4, none⟩ = some (.slice c2.a1 c2.n1 c2.c1) := hM.box.cell 4
                  by_cases hlt3 : k < c2.n1
                  · obtain ⟨b, off, cur, e, hB, hE, hh, hs⟩ := hM.ho (by omega)
                    rw [e] at y3
                    have q13 : decide ((k : Int) < (c2.n1 : Int)) = true := decide_eq_true (by omega)
                    have hlo : (0 : Int) ≤ (k : Int) := by omega
                    have hhi : (k : Int) < (c2.n1 : Int) := by omega
                    have hu : wr.cell? ⟨b, off + k, none⟩ = some (cur[off + k]'(by omega)) := (hh.cell _).trans (Array.getElem?_eq_getElem _)
                    generalize cur[off + k]'(by omega) = u at hu
                    have hf : wr.frozen? ⟨b, off + k, none⟩ = false := hh.frozen _
                    have MM := Lib.hid (hM.set hB hE (off + k) (.string ⟨#[99, 104, 97, 110, 103, 101, 100]⟩))
                    clear hM hh hs hB hE e
                    go_wp2_with fail
                    go_roundw
                    case rel => exact ⟨k + 1, by omega, by go_num, MM.out⟩
                    case measure => simp [intOf]; omega
                  · have q13 : decide ((k : Int) < (c2.n1 : Int)) = false := decide_eq_false (by omega)
                    have M4 := Lib.hid hM
                    clear hM HNH M3
                    have BQ := Lib.hid (B3.out.trans ((B4.out.trans (M4.out.bel.mono B4.out.size)).mono B3.out.size))
                    have D6 := Lib.hid (B4.out.trans (M4.out.bel.mono B4.out.size))
                    clear M4
                    skip
                    go_upto_region 23 with fail
                    clear hk3 hnb3 y3 hlt3 q13 hXl hW0 HF HA0 HX1 B30
                    have HPl : Hid (∀ W, Below W0.heap.size W0 W → Calls Tryd.prog 25 #[.bool sv, .int .i64 host] W fun e w' => ∃ c, e = .returned (.agg c.row) ∧ CfAt w' c (plainD sv) ∧ PlainV sv host c ∧ Below W.heap.size W w') := fun W hb => by
                      cases sv with
                      | true => exact (cfPlain_srv (HT0.out.below hb) host).mono fun _ _ ⟨c, h1, h2, h3, _, h5⟩ => ⟨c, h1, h2, h3, h5⟩
                      | false => exact (cfPlain_cli (HT0.out.below hb) host).mono fun _ _ ⟨c, h1, h2, h3, _, h5⟩ => ⟨c, h1, h2, h3, h5⟩
                    have HPf := Lib.hid (fun (W : World) (hb : Below W0.heap.size W0 W) => pfPlain_new (HT0.out.below hb))
                    cases sv with
                    | true =>
                      go_upto_region 24 with (first
                        | (go_at_call 25; (with_reducible refine (HPl.out _ BQ.out).mono ?_); rintro e w7 ⟨p, rfl, hp, vp, b7⟩; have HPA := Lib.hid hp; have VP := Lib.hid vp; have B7 := Lib.hid (BQ.out.trans (b7.mono BQ.out.size)); have D7 := Lib.hid (D6.out.trans (b7.mono D6.out.size)); clear hp vp b7; obtain ⟨RP, hRP⟩ : ∃ R, Hid (R = p.row) := ⟨_, Lib.hid rfl⟩; rw [← hRP.out])
                        | (refine wpList_store_new rfl 51 _ _ rfl w7.heap.size #[.bool false, .string ⟨#[]⟩, .string ⟨#[]⟩, .slice none 0 0, .slice none 0 0, .slice none 0 0, .slice none 0 0, .slice none 0 0, .slice none 0 0, .slice none 0 0, .slice none 0 0, .slice none 0 0, .int .i64 0, .slice none 0 0, .int .i64 0, .int .i64 0, .string ⟨#[]⟩, .slice none 0 0, .bool false, .bool false, .int .u32 0, .int .u32 0, .int .u32 0] RP 51 rfl rfl rfl (by rw [hRP.out]; exact sizeConfRow) (by rw [hRP.out]; rfl) (by rw [hRP.out]; exact p.row_one) ?_))
                      have HXP := Lib.hid (Holds.new w7 51 RP)
                      have B8 := Lib.hid (B7.out.alloc B7.out.size (.cells RP 51))
                      have D8 := Lib.hid (D7.out.alloc D7.out.size (.cells RP 51))
                      have HPA8 := Lib.hid (HPA.out.below ((Below.refl w7.heap.size w7).alloc (Nat.le_refl _) (.cells RP 51)))
                      obtain ⟨EP, hEP⟩ : ∃ E, Hid (E = w7.heap.size) := ⟨_, Lib.hid rfl⟩
                      rw [← hEP.out] at HXP ⊢
                      generalize w7.alloc (.cells RP 51) = W8 at *
                      clear HPA B7 D7 hEP BQ D6 HPl
                      go_upto_region 28 with (first
                        | (refine wpList_build_as rfl 51 _ rfl #[.bool true, .string ⟨#[112, 108, 97, 105, 110]⟩, .string ⟨#[]⟩, .slice (some ⟨b0, 0, none⟩) n0 c0, .slice (some ⟨b1, 0, none⟩) n1 c1, .slice (some ⟨b2, 0, none⟩) n2 c2, .slice (some ⟨b3, 0, none⟩) n3 c3, .slice (some ⟨b4, 0, none⟩) n4 c4, .slice (some ⟨b5, 0, none⟩) n5 c5, .slice (some ⟨b6, 0, none⟩) n6 c6, .slice (some ⟨b7, 0, none⟩) n7 c7, .slice (some ⟨w9.heap.size, 0, none⟩) 1 1, .int .i64 0, .slice none 0 0, .int .i64 0, .int .i64 0, .string ⟨#[]⟩, .slice none 0 0, .bool false, .bool false, .int .u32 0, .int .u32 0, .int .u32 0] (by kernel_rfl) ?_)
                        | (refine wpList_store_new rfl 51 _ _ rfl (w9.heap.size + 1) #[.bool false, .string ⟨#[]⟩, .string ⟨#[]⟩, .slice none 0 0, .slice none 0 0, .slice none 0 0, .slice none 0 0, .slice none 0 0, .slice none 0 0, .slice none 0 0, .slice none 0 0, .slice none 0 0, .int .i64 0, .slice none 0 0, .int .i64 0, .int .i64 0, .string ⟨#[]⟩, .slice none 0 0, .bool false, .bool false, .int .u32 0, .int .u32 0, .int .u32 0] _ 51 rfl rfl (by simp only [World.size_alloc]) (by exact sizeZ) (by rfl) (by simp [Value.oneCell']) ?_)
                        | (go_at_call 26; (with_reducible refine (HPf.out _ B8.out).mono ?_); rintro e w9 ⟨u, rfl, hu, hne, bb1⟩; obtain ⟨b0, n0, c0, e0, l0⟩ := hne 0 (by omega); obtain ⟨b1, n1, c1, e1, l1⟩ := hne 1 (by omega); obtain ⟨b2, n2, c2, e2, l2⟩ := hne 2 (by omega); obtain ⟨b3, n3, c3, e3, l3⟩ := hne 3 (by omega); obtain ⟨b4, n4, c4, e4, l4⟩ := hne 4 (by omega); obtain ⟨b5, n5, c5, e5, l5⟩ := hne 5 (by omega); obtain ⟨b6, n6, c6, e6, l6⟩ := hne 6 (by omega); obtain ⟨b7, n7, c7, e7, l7⟩ := hne 7 (by omega); have HU := Lib.hid hu; have HE := Lib.hid (And.intro e0 (And.intro e1 (And.intro e2 (And.intro e3 (And.intro e4 (And.intro e5 (And.intro e6 e7))))))); have B9 := Lib.hid bb1; unfold agg8; rw [e0, e1, e2, e3, e4, e5, e6, e7]; clear e0 e1 e2 e3 e4 e5 e6 e7 l0 l1 l2 l3 l4 l5 l6 l7 hu hne bb1))
                      have y1 := first_row w9 (.cells #[.string ⟨#[115, 115, 104, 45, 101, 100, 50, 53, 53, 49, 57]⟩] 9) (.cells #[.bool true, .string ⟨#[112, 108, 97, 105, 110]⟩, .string ⟨#[]⟩, .slice (some ⟨b0, 0, none⟩) n0 c0, .slice (some ⟨b1, 0, none⟩) n1 c1, .slice (some ⟨b2, 0, none⟩) n2 c2, .slice (some ⟨b3, 0, none⟩) n3 c3, .slice (some ⟨b4, 0, none⟩) n4 c4, .slice (some ⟨b5, 0, none⟩) n5 c5, .slice (some ⟨b6, 0, none⟩) n6 c6, .slice (some ⟨b7, 0, none⟩) n7 c7, .slice (some ⟨w9.heap.size, 0, none⟩) 1 1, .int .i64 host, .slice (some ⟨w9.heap.size + 1 + 1, 0, none⟩) 1 1, .int .i64 3, .int .i64 0, .string ⟨#[]⟩, .slice none 0 0, .bool false, .bool false, .int .u32 0, .int .u32 0, .int .u32 0] 51) (.cells #[.string ⟨#[97, 110, 110]⟩, .int .i64 8] 62)
                      have y3 := last_row w9 (.cells #[.string ⟨#[115, 115, 104, 45, 101, 100, 50, 53, 53, 49, 57]⟩] 9) (.cells #[.bool true, .string ⟨#[112, 108, 97, 105, 110]⟩, .string ⟨#[]⟩, .slice (some ⟨b0, 0, none⟩) n0 c0, .slice (some ⟨b1, 0, none⟩) n1 c1, .slice (some ⟨b2, 0, none⟩) n2 c2, .slice (some ⟨b3, 0, none⟩) n3 c3, .slice (some ⟨b4, 0, none⟩) n4 c4, .slice (some ⟨b5, 0, none⟩) n5 c5, .slice (some ⟨b6, 0, none⟩) n6 c6, .slice (some ⟨b7, 0, none⟩) n7 c7, .slice (some ⟨w9.heap.size, 0, none⟩) 1 1, .int .i64 host, .slice (some ⟨w9.heap.size + 1 + 1, 0, none⟩) 1 1, .int .i64 3, .int .i64 0, .string ⟨#[]⟩, .slice none 0 0, .bool false, .bool false, .int .u32 0, .int .u32 0, .int .u32 0] 51) (.cells #[.string ⟨#[97, 110, 110]⟩, .int .i64 8] 62)
                      have y2 : Holds (((w9.alloc (.cells #[.string ⟨#[115, 115, 104, 45, 101, 100, 50, 53, 53, 49, 57]⟩] 9)).alloc (.cells #[.bool true, .string ⟨#[112, 108, 97, 105, 110]⟩, .string ⟨#[]⟩, .slice (some ⟨b0, 0, none⟩) n0 c0, .slice (some ⟨b1, 0, none⟩) n1 c1, .slice (some ⟨b2, 0, none⟩) n2 c2, .slice (some ⟨b3, 0, none⟩) n3 c3, .slice (some ⟨b4, 0, none⟩) n4 c4, .slice (some ⟨b5, 0, none⟩) n5 c5, .slice (some ⟨b6, 0, none⟩) n6 c6, .slice (some ⟨b7, 0, none⟩) n7 c7, .slice (some ⟨w9.heap.size, 0, none⟩) 1 1, .int .i64 host, .slice (some ⟨w9.heap.size + 1 + 1, 0, none⟩) 1 1, .int .i64 3, .int .i64 0, .string ⟨#[]⟩, .slice none 0 0, .bool false, .bool false, .int .u32 0, .int .u32 0, .int .u32 0] 51)).alloc (.cells #[.string ⟨#[97, 110, 110]⟩, .int .i64 8] 62)) (w9.heap.size + 1) 51 #[.bool true, .string ⟨#[112, 108, 97, 105, 110]⟩, .string ⟨#[]⟩, .slice (some ⟨b0, 0, none⟩) n0 c0, .slice (some ⟨b1, 0, none⟩) n1 c1, .slice (some ⟨b2, 0, none⟩) n2 c2, .slice (some ⟨b3, 0, none⟩) n3 c3, .slice (some ⟨b4, 0, none⟩) n4 c4, .slice (some ⟨b5, 0, none⟩) n5 c5, .slice (some ⟨b6, 0, none⟩) n6 c6, .slice (some ⟨b7, 0, none⟩) n7 c7, .slice (some ⟨w9.heap.size, 0, none⟩) 1 1, .int .i64 host, .slice (some ⟨w9.heap.size + 1 + 1, 0, none⟩) 1 1, .int .i64 3, .int .i64 0, .string ⟨#[]⟩, .slice none 0 0, .bool false, .bool false, .int .u32 0, .int .u32 0, .int .u32 0] := mid_row w9 (.cells #[.string ⟨#[115, 115, 104, 45, 101, 100, 50, 53, 53, 49, 57]⟩] 9) (.cells #[.string ⟨#[97, 110, 110]⟩, .int .i64 8] 62) #[.bool true, .string ⟨#[112, 108, 97, 105, 110]⟩, .string ⟨#[]⟩, .slice (some ⟨b0, 0, none⟩) n0 c0, .slice (some ⟨b1, 0, none⟩) n1 c1, .slice (some ⟨b2, 0, none⟩) n2 c2, .slice (some ⟨b3, 0, none⟩) n3 c3, .slice (some ⟨b4, 0, none⟩) n4 c4, .slice (some ⟨b5, 0, none⟩) n5 c5, .slice (some ⟨b6, 0, none⟩) n6 c6, .slice (some ⟨b7, 0, none⟩) n7 c7, .slice (some ⟨w9.heap.size, 0, none⟩) 1 1, .int .i64 host, .slice (some ⟨w9.heap.size + 1 + 1, 0, none⟩) 1 1, .int .i64 3, .int .i64 0, .string ⟨#[]⟩, .slice none 0 0, .bool false, .bool false, .int .u32 0, .int .u32 0, .int .u32 0] 51
                      have d3 := below3 w9 (.cells #[.string ⟨#[115, 115, 104, 45, 101, 100, 50, 53, 53, 49, 57]⟩] 9) (.cells #[.bool true, .string ⟨#[112, 108, 97, 105, 110]⟩, .string ⟨#[]⟩, .slice (some ⟨b0, 0, none⟩) n0 c0, .slice (some ⟨b1, 0, none⟩) n1 c1, .slice (some ⟨b2, 0, none⟩) n2 c2, .slice (some ⟨b3, 0, none⟩) n3 c3, .slice (some ⟨b4, 0, none⟩) n4 c4, .slice (some ⟨b5, 0, none⟩) n5 c5, .slice (some ⟨b6, 0, none⟩) n6 c6, .slice (some ⟨b7, 0, none⟩) n7 c7, .slice (some ⟨w9.heap.size, 0, none⟩) 1 1, .int .i64 host, .slice (some ⟨w9.heap.size + 1 + 1, 0, none⟩) 1 1, .int .i64 3, .int .i64 0, .string ⟨#[]⟩, .slice none 0 0, .bool false, .bool false, .int .u32 0, .int .u32 0, .int .u32 0] 51) (.cells #[.string ⟨#[97, 110, 110]⟩, .int .i64 8] 62)
                      have DW := Lib.hid (B9.out.trans (d3.mono B9.out.size))
                      have hU3 := HU.out.below d3
                      have HQA : Hid (CfAt (((w9.alloc (.cells #[.string ⟨#[115, 115, 104, 45, 101, 100, 50, 53, 53, 49, 57]⟩] 9)).alloc (.cells #[.bool true, .string ⟨#[112, 108, 97, 105, 110]⟩, .string ⟨#[]⟩, .slice (some ⟨b0, 0, none⟩) n0 c0, .slice (some ⟨b1, 0, none⟩) n1 c1, .slice (some ⟨b2, 0, none⟩) n2 c2, .slice (some ⟨b3, 0, none⟩) n3 c3, .slice (some ⟨b4, 0, none⟩) n4 c4, .slice (some ⟨b5, 0, none⟩) n5 c5, .slice (some ⟨b6, 0, none⟩) n6 c6, .slice (some ⟨b7, 0, none⟩) n7 c7, .slice (some ⟨w9.heap.size, 0, none⟩) 1 1, .int .i64 host, .slice (some ⟨w9.heap.size + 1 + 1, 0, none⟩) 1 1, .int .i64 3, .int .i64 0, .string ⟨#[]⟩, .slice none 0 0, .bool false, .bool false, .int .u32 0, .int .u32 0, .int .u32 0] 51)).alloc (.cells #[.string ⟨#[97, 110, 110]⟩, .int .i64 8] 62)) ({ sv := true, so := ⟨#[112, 108, 97, 105, 110]⟩, co := ⟨#[]⟩, a0 := some ⟨b0, 0, none⟩, n0 := n0, c0 := c0, a1 := some ⟨b1, 0, none⟩, n1 := n1, c1 := c1, a2 := some ⟨b2, 0, none⟩, n2 := n2, c2 := c2, a3 := some ⟨b3, 0, none⟩, n3 := n3, c3 := c3, a4 := some ⟨b4, 0, none⟩, n4 := n4, c4 := c4, a5 := some ⟨b5, 0, none⟩, n5 := n5, c5 := c5, a6 := some ⟨b6, 0, none⟩, n6 := n6, c6 := c6, a7 := some ⟨b7, 0, none⟩, n7 := n7, c7 := c7, aa := some ⟨w9.heap.size, 0, none⟩, na := 1, ca := 1, ow := host, ag := some ⟨w9.heap.size + 1 + 1, 0, none⟩, ng := 1, cg := 1, li := 3, pe := 0, us := ⟨#[]⟩, ak := none, nk := 0, ck := 0, ex := false, gu := false, w0 := 0, w1 := 0, w2 := 0 } : CfV) (plainD true)) := by
                        obtain ⟨e0, e1, e2, e3, e4, e5, e6, e7⟩ := HE.out
                        refine ⟨rfl, rfl, rfl, fun k hk => ?_, texts_one (x := edL) y1, grants_one (x := annS25) y3, IdsAt.nil _⟩
                        match k, hk with
                        | 0, _ =>
                          have h := hU3.at_ 0 (by omega)
                          rw [e0] at h
                          exact h
                        | 1, _ =>
                          have h := hU3.at_ 1 (by omega)
                          rw [e1] at h
                          exact h
                        | 2, _ =>
                          have h := hU3.at_ 2 (by omega)
                          rw [e2] at h
                          exact h
                        | 3, _ =>
                          have h := hU3.at_ 3 (by omega)
                          rw [e3] at h
                          exact h
                        | 4, _ =>
                          have h := hU3.at_ 4 (by omega)
                          rw [e4] at h
                          exact h
                        | 5, _ =>
                          have h := hU3.at_ 5 (by omega)
                          rw [e5] at h
                          exact h
                        | 6, _ =>
                          have h := hU3.at_ 6 (by omega)
                          rw [e6] at h
                          exact h
                        | 7, _ =>
                          have h := hU3.at_ 7 (by omega)
                          rw [e7] at h
                          exact h
                        | k + 8, h => exact absurd h (by omega)
                      have HQV : Hid (PlainV true host ({ sv := true, so := ⟨#[112, 108, 97, 105, 110]⟩, co := ⟨#[]⟩, a0 := some ⟨b0, 0, none⟩, n0 := n0, c0 := c0, a1 := some ⟨b1, 0, none⟩, n1 := n1, c1 := c1, a2 := some ⟨b2, 0, none⟩, n2 := n2, c2 := c2, a3 := some ⟨b3, 0, none⟩, n3 := n3, c3 := c3, a4 := some ⟨b4, 0, none⟩, n4 := n4, c4 := c4, a5 := some ⟨b5, 0, none⟩, n5 := n5, c5 := c5, a6 := some ⟨b6, 0, none⟩, n6 := n6, c6 := c6, a7 := some ⟨b7, 0, none⟩, n7 := n7, c7 := c7, aa := some ⟨w9.heap.size, 0, none⟩, na := 1, ca := 1, ow := host, ag := some ⟨w9.heap.size + 1 + 1, 0, none⟩, ng := 1, cg := 1, li := 3, pe := 0, us := ⟨#[]⟩, ak := none, nk := 0, ck := 0, ex := false, gu := false, w0 := 0, w1 := 0, w2 := 0 } : CfV)) := ⟨rfl, rfl, rfl, rfl, rfl, rfl, rfl, rfl, rfl⟩
                      obtain ⟨q, hq⟩ : ∃ q : CfV, Hid (q = ({ sv := true, so := ⟨#[112, 108, 97, 105, 110]⟩, co := ⟨#[]⟩, a0 := some ⟨b0, 0, none⟩, n0 := n0, c0 := c0, a1 := some ⟨b1, 0, none⟩, n1 := n1, c1 := c1, a2 := some ⟨b2, 0, none⟩, n2 := n2, c2 := c2, a3 := some ⟨b3, 0, none⟩, n3 := n3, c3 := c3, a4 := some ⟨b4, 0, none⟩, n4 := n4, c4 := c4, a5 := some ⟨b5, 0, none⟩, n5 := n5, c5 := c5, a6 := some ⟨b6, 0, none⟩, n6 := n6, c6 := c6, a7 := some ⟨b7, 0, none⟩, n7 := n7, c7 := c7, aa := some ⟨w9.heap.size, 0, none⟩, na := 1, ca := 1, ow := host, ag := some ⟨w9.heap.size + 1 + 1, 0, none⟩, ng := 1, cg := 1, li := 3, pe := 0, us := ⟨#[]⟩, ak := none, nk := 0, ck := 0, ex := false, gu := false, w0 := 0, w1 := 0, w2 := 0 } : CfV)) := ⟨_, Lib.hid rfl⟩
                      rw [← hq.out] at HQA HQV
                      have hRq : Hid (#[.bool true, .string ⟨#[112, 108, 97, 105, 110]⟩, .string ⟨#[]⟩, .slice (some ⟨b0, 0, none⟩) n0 c0, .slice (some ⟨b1, 0, none⟩) n1 c1, .slice (some ⟨b2, 0, none⟩) n2 c2, .slice (some ⟨b3, 0, none⟩) n3 c3, .slice (some ⟨b4, 0, none⟩) n4 c4, .slice (some ⟨b5, 0, none⟩) n5 c5, .slice (some ⟨b6, 0, none⟩) n6 c6, .slice (some ⟨b7, 0, none⟩) n7 c7, .slice (some ⟨w9.heap.size, 0, none⟩) 1 1, .int .i64 host, .slice (some ⟨w9.heap.size + 1 + 1, 0, none⟩) 1 1, .int .i64 3, .int .i64 0, .string ⟨#[]⟩, .slice none 0 0, .bool false, .bool false, .int .u32 0, .int .u32 0, .int .u32 0] = q.row) := by rw [hq.out]; exact Lib.hid rfl
                      rw [hRq.out] at y2 d3 DW HQA ⊢
                      obtain ⟨RQ, hRQ⟩ : ∃ R, Hid (R = q.row) := ⟨_, Lib.hid rfl⟩
                      rw [← hRQ.out] at y2 d3 DW HQA ⊢
                      have Y2 := Lib.hid y2
                      clear y1 y2 y3 hU3 HE HU hRq hq d3
                      generalize ((w9.alloc (.cells #[.string ⟨#[115, 115, 104, 45, 101, 100, 50, 53, 53, 49, 57]⟩] 9)).alloc (.cells RQ 51)).alloc (.cells #[.string ⟨#[97, 110, 110]⟩, .int .i64 8] 62) = W9 at *
                      obtain ⟨EQ, hEQ⟩ : ∃ E, Hid (E = w9.heap.size + 1) := ⟨_, Lib.hid rfl⟩
                      rw [← hEQ.out] at Y2 ⊢
                      clear hEQ
                      have DA := Lib.hid (B8.out.trans (DW.out.mono B8.out.size))
                      have DB := Lib.hid (D8.out.trans (DW.out.mono D8.out.size))
                      have HSQ : Hid (∀ W, Below W9.heap.size W9 W → Calls Tryd.prog 24 #[.agg RP, .agg RQ] W fun e w' => e = .returned (.bool true) ∧ Below W.heap.size W w') := fun W hb => by rw [hRP.out, hRQ.out]; exact same25_plain ((HPA8.out.below DW.out).below hb) (HQA.out.below hb) VP.out HQV.out
                      have HCk : Hid (∀ W, Below W9.heap.size W9 W → Calls Tryd.prog 27 #[.agg RP] W fun e w' => (if whoB host = true then e = .returned .nilIface else ∃ t u, e = .returned (.iface t u)) ∧ Below W.heap.size W w') := fun W hb => by rw [hRP.out]; exact check_plain25 ((HT0.out.below DA.out).below hb) ((HPA8.out.below DW.out).below hb) VP.out
                      have HXP9 : Hid (∀ W, Below W9.heap.size W9 W → Holds W EP 51 RP ∧ Holds W EQ 51 RQ ∧ Holds W w.heap.size 51 c.row ∧ Holds W E1 51 R1) := fun W hb => ⟨(hb.block _ (Holds.lt ((DW.out.block _ HXP.out.lt).trans HXP.out))).trans ((DW.out.block _ HXP.out.lt).trans HXP.out), (hb.block _ Y2.out.lt).trans Y2.out, HBx.out _ (DA.out.trans (hb.mono DA.out.size)), HX3.out _ (DB.out.trans (hb.mono DB.out.size))⟩
                      have HS9 : Hid (∀ W, Below W9.heap.size W9 W → Calls Tryd.prog 24 #[.agg c.row, .agg R1] W fun e w' => e = .returned (.bool true) ∧ Below W.heap.size W w') := fun W hb => HS3.out _ (DB.out.trans (hb.mono DB.out.size))
                      have HAw9 : Hid (∀ W, Below W9.heap.size W9 W → Calls Tryd.prog 19 #[] W fun e w' => e = .returned (.bool true) ∧ Below W.heap.size W w') := fun W hb => HAw.out _ (DA.out.trans (hb.mono DA.out.size))
                      have HEnd : Hid (∀ W, Below W9.heap.size W9 W → Below w.heap.size w W) := fun W hb => HB0.out.trans ((DA.out.trans (hb.mono DA.out.size)).mono HB0.out.size)
                      have H90 := Lib.hid (Below.refl W9.heap.size W9)
                      have zR1 : R1.size = 23 := by rw [hR1.out]; rfl
                      have zRP : RP.size = 23 := by rw [hRP.out]; rfl
                      have zRQ : RQ.size = 23 := by rw [hRQ.out]; rfl
                      have HZs := Lib.hid (And.intro zR1 (And.intro zRP zRQ))
                      clear zR1 zRP zRQ DW DA DB HPA8 VP HQA HQV B8 D8 B9 HXP Y2 HBx HX3 HS3 HAw HB0 HT0 hRP hRQ hR1 B3 B4 HPf
                      have ZR1 : Hid ((Tryd.prog.info? 51).map (·.size) = some R1.size) := by rw [HZs.out.1]; exact Lib.hid sizeZ
                      have ZRP : Hid ((Tryd.prog.info? 51).map (·.size) = some RP.size) := by rw [HZs.out.2.1]; exact Lib.hid sizeZ
                      have ZRQ : Hid ((Tryd.prog.info? 51).map (·.size) = some RQ.size) := by rw [HZs.out.2.2]; exact Lib.hid sizeZ
                      clear HZs
                      by_cases g0 : 0 ≤ host
                      · by_cases g1 : host ≤ 15
                        · have HW : Hid (whoB host = true) := Lib.hid (by unfold whoB; simp [g0, g1])
                          have q0 : decide (host ≥ 0) = true := decide_eq_true g0
                          have q1 : decide (host ≤ 15) = true := decide_eq_true g1
                          go_wp2_with (first
                            | (refine wpList_load_row_on (by rfl) 51 _ rfl w.heap.size rfl 51 c.row (0, 0) _ (HXP9.out _ HA.out).2.2.1 Tryd.underlying51 rfl (by exact sizeConfRow) ?_)
                            | (refine wpList_load_row_on (by rfl) 51 _ rfl E1 rfl 51 R1 (0, 0) _ (HXP9.out _ HA.out).2.2.2 Tryd.underlying51 rfl (by exact ZR1.out) ?_)
                            | (refine wpList_load_row_on (by rfl) 51 _ rfl EP rfl 51 RP (0, 0) _ (HXP9.out _ HB.out).1 Tryd.underlying51 rfl (by exact ZRP.out) ?_)
                            | (refine wpList_load_row_on (by rfl) 51 _ rfl EQ rfl 51 RQ (0, 0) _ (HXP9.out _ HB.out).2.1 Tryd.underlying51 rfl (by exact ZRQ.out) ?_)
                            | (refine wpList_load_row_on (by rfl) 51 _ rfl EP rfl 51 RP (0, 0) _ (HXP9.out _ HC9.out).1 Tryd.underlying51 rfl (by exact ZRP.out) ?_)
                            | (go_at_call 19; (with_reducible refine (HAw9.out _ H90.out).mono ?_); rintro e w10 ⟨rfl, b10⟩; have HA := Lib.hid (H90.out.trans (b10.mono H90.out.size)); clear b10)
                            | (go_at_call 24; (with_reducible refine (HS9.out _ HA.out).mono ?_); rintro e w11 ⟨rfl, b11⟩; have HB := Lib.hid (HA.out.trans (b11.mono HA.out.size)); clear b11)
                            | (go_at_call 24; (with_reducible refine (HSQ.out _ HB.out).mono ?_); rintro e w12 ⟨rfl, b12⟩; have HC9 := Lib.hid (HB.out.trans (b12.mono HB.out.size)); clear b12)
                            | (go_at_call 27; (with_reducible refine (HCk.out _ HC9.out).mono ?_); rintro e w13 ⟨hz, b13⟩; rw [if_pos (by rw [HW.out])] at hz; subst hz; have HD := Lib.hid (HC9.out.trans (b13.mono HC9.out.size)); clear b13)
                            | fail)
                          go_ret
                          exact ⟨rfl, HEnd.out _ HD.out⟩
                        · have HW : Hid (whoB host = false) := Lib.hid (by unfold whoB; simp [g0, g1])
                          have q0 : decide (host ≥ 0) = true := decide_eq_true g0
                          have q1 : decide (host ≤ 15) = false := decide_eq_false g1
                          go_wp2_with (first
                            | (refine wpList_load_row_on (by rfl) 51 _ rfl w.heap.size rfl 51 c.row (0, 0) _ (HXP9.out _ HA.out).2.2.1 Tryd.underlying51 rfl (by exact sizeConfRow) ?_)
                            | (refine wpList_load_row_on (by rfl) 51 _ rfl E1 rfl 51 R1 (0, 0) _ (HXP9.out _ HA.out).2.2.2 Tryd.underlying51 rfl (by exact ZR1.out) ?_)
                            | (refine wpList_load_row_on (by rfl) 51 _ rfl EP rfl 51 RP (0, 0) _ (HXP9.out _ HB.out).1 Tryd.underlying51 rfl (by exact ZRP.out) ?_)
                            | (refine wpList_load_row_on (by rfl) 51 _ rfl EQ rfl 51 RQ (0, 0) _ (HXP9.out _ HB.out).2.1 Tryd.underlying51 rfl (by exact ZRQ.out) ?_)
                            | (refine wpList_load_row_on (by rfl) 51 _ rfl EP rfl 51 RP (0, 0) _ (HXP9.out _ HC9.out).1 Tryd.underlying51 rfl (by exact ZRP.out) ?_)
                            | (go_at_call 19; (with_reducible refine (HAw9.out _ H90.out).mono ?_); rintro e w10 ⟨rfl, b10⟩; have HA := Lib.hid (H90.out.trans (b10.mono H90.out.size)); clear b10)
                            | (go_at_call 24; (with_reducible refine (HS9.out _ HA.out).mono ?_); rintro e w11 ⟨rfl, b11⟩; have HB := Lib.hid (HA.out.trans (b11.mono HA.out.size)); clear b11)
                            | (go_at_call 24; (with_reducible refine (HSQ.out _ HB.out).mono ?_); rintro e w12 ⟨rfl, b12⟩; have HC9 := Lib.hid (HB.out.trans (b12.mono HB.out.size)); clear b12)
                            | (go_at_call 27; (with_reducible refine (HCk.out _ HC9.out).mono ?_); rintro e w13 ⟨hz, b13⟩; rw [if_neg (by rw [HW.out]; simp)] at hz; obtain ⟨t, u, rfl⟩ := hz; have HD := Lib.hid (HC9.out.trans (b13.mono HC9.out.size)); clear b13)
                            | fail)
                          go_ret
                          exact ⟨rfl, HEnd.out _ HD.out⟩
                      · have HW : Hid (whoB host = false) := Lib.hid (by unfold whoB; simp [g0])
                        have q0 : decide (host ≥ 0) = false := decide_eq_false g0
                        go_wp2_with (first
                          | (refine wpList_load_row_on (by rfl) 51 _ rfl w.heap.size rfl 51 c.row (0, 0) _ (HXP9.out _ HA.out).2.2.1 Tryd.underlying51 rfl (by exact sizeConfRow) ?_)
                          | (refine wpList_load_row_on (by rfl) 51 _ rfl E1 rfl 51 R1 (0, 0) _ (HXP9.out _ HA.out).2.2.2 Tryd.underlying51 rfl (by exact ZR1.out) ?_)
                          | (refine wpList_load_row_on (by rfl) 51 _ rfl EP rfl 51 RP (0, 0) _ (HXP9.out _ HB.out).1 Tryd.underlying51 rfl (by exact ZRP.out) ?_)
                          | (refine wpList_load_row_on (by rfl) 51 _ rfl EQ rfl 51 RQ (0, 0) _ (HXP9.out _ HB.out).2.1 Tryd.underlying51 rfl (by exact ZRQ.out) ?_)
                          | (refine wpList_load_row_on (by rfl) 51 _ rfl EP rfl 51 RP (0, 0) _ (HXP9.out _ HC9.out).1 Tryd.underlying51 rfl (by exact ZRP.out) ?_)
                          | (go_at_call 19; (with_reducible refine (HAw9.out _ H90.out).mono ?_); rintro e w10 ⟨rfl, b10⟩; have HA := Lib.hid (H90.out.trans (b10.mono H90.out.size)); clear b10)
                          | (go_at_call 24; (with_reducible refine (HS9.out _ HA.out).mono ?_); rintro e w11 ⟨rfl, b11⟩; have HB := Lib.hid (HA.out.trans (b11.mono HA.out.size)); clear b11)
                          | (go_at_call 24; (with_reducible refine (HSQ.out _ HB.out).mono ?_); rintro e w12 ⟨rfl, b12⟩; have HC9 := Lib.hid (HB.out.trans (b12.mono HB.out.size)); clear b12)
                          | (go_at_call 27; (with_reducible refine (HCk.out _ HC9.out).mono ?_); rintro e w13 ⟨hz, b13⟩; rw [if_neg (by rw [HW.out]; simp)] at hz; obtain ⟨t, u, rfl⟩ := hz; have HD := Lib.hid (HC9.out.trans (b13.mono HC9.out.size)); clear b13)
                          | fail)
                        go_ret
                        exact ⟨rfl, HEnd.out _ HD.out⟩
                    | false =>
                      go_upto_region 24 with (first
                        | (go_at_call 25; (with_reducible refine (HPl.out _ BQ.out).mono ?_); rintro e w7 ⟨p, rfl, hp, vp, b7⟩; have HPA := Lib.hid hp; have VP := Lib.hid vp; have B7 := Lib.hid (BQ.out.trans (b7.mono BQ.out.size)); have D7 := Lib.hid (D6.out.trans (b7.mono D6.out.size)); clear hp vp b7; obtain ⟨RP, hRP⟩ : ∃ R, Hid (R = p.row) := ⟨_, Lib.hid rfl⟩; rw [← hRP.out])
                        | (refine wpList_store_new rfl 51 _ _ rfl w7.heap.size #[.bool false, .string ⟨#[]⟩, .string ⟨#[]⟩, .slice none 0 0, .slice none 0 0, .slice none 0 0, .slice none 0 0, .slice none 0 0, .slice none 0 0, .slice none 0 0, .slice none 0 0, .slice none 0 0, .int .i64 0, .slice none 0 0, .int .i64 0, .int .i64 0, .string ⟨#[]⟩, .slice none 0 0, .bool false, .bool false, .int .u32 0, .int .u32 0, .int .u32 0] RP 51 rfl rfl rfl (by rw [hRP.out]; exact sizeConfRow) (by rw [hRP.out]; rfl) (by rw [hRP.out]; exact p.row_one) ?_))
                      have HXP := Lib.hid (Holds.new w7 51 RP)
                      have B8 := Lib.hid (B7.out.alloc B7.out.size (.cells RP 51))
                      have D8 := Lib.hid (D7.out.alloc D7.out.size (.cells RP 51))
                      have HPA8 := Lib.hid (HPA.out.below ((Below.refl w7.heap.size w7).alloc (Nat.le_refl _) (.cells RP 51)))
                      obtain ⟨EP, hEP⟩ : ∃ E, Hid (E = w7.heap.size) := ⟨_, Lib.hid rfl⟩
                      rw [← hEP.out] at HXP ⊢
                      generalize w7.alloc (.cells RP 51) = W8 at *
                      clear HPA B7 D7 hEP BQ D6 HPl
                      go_upto_region 28 with (first
                        | (refine wpList_build_as rfl 51 _ rfl #[.bool false, .string ⟨#[112, 108, 97, 105, 110]⟩, .string ⟨#[]⟩, .slice (some ⟨b0, 0, none⟩) n0 c0, .slice (some ⟨b1, 0, none⟩) n1 c1, .slice (some ⟨b2, 0, none⟩) n2 c2, .slice (some ⟨b3, 0, none⟩) n3 c3, .slice (some ⟨b4, 0, none⟩) n4 c4, .slice (some ⟨b5, 0, none⟩) n5 c5, .slice (some ⟨b6, 0, none⟩) n6 c6, .slice (some ⟨b7, 0, none⟩) n7 c7, .slice (some ⟨w9.heap.size, 0, none⟩) 1 1, .int .i64 0, .slice none 0 0, .int .i64 0, .int .i64 0, .string ⟨#[]⟩, .slice none 0 0, .bool false, .bool false, .int .u32 0, .int .u32 0, .int .u32 0] (by kernel_rfl) ?_)
                        | (refine wpList_store_new rfl 51 _ _ rfl (w9.heap.size + 1) #[.bool false, .string ⟨#[]⟩, .string ⟨#[]⟩, .slice none 0 0, .slice none 0 0, .slice none 0 0, .slice none 0 0, .slice none 0 0, .slice none 0 0, .slice none 0 0, .slice none 0 0, .slice none 0 0, .int .i64 0, .slice none 0 0, .int .i64 0, .int .i64 0, .string ⟨#[]⟩, .slice none 0 0, .bool false, .bool false, .int .u32 0, .int .u32 0, .int .u32 0] _ 51 rfl rfl (by simp only [World.size_alloc]) (by exact sizeZ) (by rfl) (by simp [Value.oneCell']) ?_)
                        | (go_at_call 26; (with_reducible refine (HPf.out _ B8.out).mono ?_); rintro e w9 ⟨u, rfl, hu, hne, bb1⟩; obtain ⟨b0, n0, c0, e0, l0⟩ := hne 0 (by omega); obtain ⟨b1, n1, c1, e1, l1⟩ := hne 1 (by omega); obtain ⟨b2, n2, c2, e2, l2⟩ := hne 2 (by omega); obtain ⟨b3, n3, c3, e3, l3⟩ := hne 3 (by omega); obtain ⟨b4, n4, c4, e4, l4⟩ := hne 4 (by omega); obtain ⟨b5, n5, c5, e5, l5⟩ := hne 5 (by omega); obtain ⟨b6, n6, c6, e6, l6⟩ := hne 6 (by omega); obtain ⟨b7, n7, c7, e7, l7⟩ := hne 7 (by omega); have HU := Lib.hid hu; have HE := Lib.hid (And.intro e0 (And.intro e1 (And.intro e2 (And.intro e3 (And.intro e4 (And.intro e5 (And.intro e6 e7))))))); have B9 := Lib.hid bb1; unfold agg8; rw [e0, e1, e2, e3, e4, e5, e6, e7]; clear e0 e1 e2 e3 e4 e5 e6 e7 l0 l1 l2 l3 l4 l5 l6 l7 hu hne bb1))
                      have y1 := first_row w9 (.cells #[.string ⟨#[115, 115, 104, 45, 101, 100, 50, 53, 53, 49, 57]⟩] 9) (.cells #[.bool false, .string ⟨#[112, 108, 97, 105, 110]⟩, .string ⟨#[]⟩, .slice (some ⟨b0, 0, none⟩) n0 c0, .slice (some ⟨b1, 0, none⟩) n1 c1, .slice (some ⟨b2, 0, none⟩) n2 c2, .slice (some ⟨b3, 0, none⟩) n3 c3, .slice (some ⟨b4, 0, none⟩) n4 c4, .slice (some ⟨b5, 0, none⟩) n5 c5, .slice (some ⟨b6, 0, none⟩) n6 c6, .slice (some ⟨b7, 0, none⟩) n7 c7, .slice (some ⟨w9.heap.size, 0, none⟩) 1 1, .int .i64 0, .slice none 0 0, .int .i64 0, .int .i64 host, .string ⟨#[97, 110, 110]⟩, .slice (some ⟨w9.heap.size + 1 + 1, 0, none⟩) 1 1, .bool true, .bool false, .int .u32 2048, .int .u32 3072, .int .u32 8192] 51) (.cells #[.int .i64 8] 3)
                      have y3 := last_row w9 (.cells #[.string ⟨#[115, 115, 104, 45, 101, 100, 50, 53, 53, 49, 57]⟩] 9) (.cells #[.bool false, .string ⟨#[112, 108, 97, 105, 110]⟩, .string ⟨#[]⟩, .slice (some ⟨b0, 0, none⟩) n0 c0, .slice (some ⟨b1, 0, none⟩) n1 c1, .slice (some ⟨b2, 0, none⟩) n2 c2, .slice (some ⟨b3, 0, none⟩) n3 c3, .slice (some ⟨b4, 0, none⟩) n4 c4, .slice (some ⟨b5, 0, none⟩) n5 c5, .slice (some ⟨b6, 0, none⟩) n6 c6, .slice (some ⟨b7, 0, none⟩) n7 c7, .slice (some ⟨w9.heap.size, 0, none⟩) 1 1, .int .i64 0, .slice none 0 0, .int .i64 0, .int .i64 host, .string ⟨#[97, 110, 110]⟩, .slice (some ⟨w9.heap.size + 1 + 1, 0, none⟩) 1 1, .bool true, .bool false, .int .u32 2048, .int .u32 3072, .int .u32 8192] 51) (.cells #[.int .i64 8] 3)
                      have y2 : Holds (((w9.alloc (.cells #[.string ⟨#[115, 115, 104, 45, 101, 100, 50, 53, 53, 49, 57]⟩] 9)).alloc (.cells #[.bool false, .string ⟨#[112, 108, 97, 105, 110]⟩, .string ⟨#[]⟩, .slice (some ⟨b0, 0, none⟩) n0 c0, .slice (some ⟨b1, 0, none⟩) n1 c1, .slice (some ⟨b2, 0, none⟩) n2 c2, .slice (some ⟨b3, 0, none⟩) n3 c3, .slice (some ⟨b4, 0, none⟩) n4 c4, .slice (some ⟨b5, 0, none⟩) n5 c5, .slice (some ⟨b6, 0, none⟩) n6 c6, .slice (some ⟨b7, 0, none⟩) n7 c7, .slice (some ⟨w9.heap.size, 0, none⟩) 1 1, .int .i64 0, .slice none 0 0, .int .i64 0, .int .i64 host, .string ⟨#[97, 110, 110]⟩, .slice (some ⟨w9.heap.size + 1 + 1, 0, none⟩) 1 1, .bool true, .bool false, .int .u32 2048, .int .u32 3072, .int .u32 8192] 51)).alloc (.cells #[.int .i64 8] 3)) (w9.heap.size + 1) 51 #[.bool false, .string ⟨#[112, 108, 97, 105, 110]⟩, .string ⟨#[]⟩, .slice (some ⟨b0, 0, none⟩) n0 c0, .slice (some ⟨b1, 0, none⟩) n1 c1, .slice (some ⟨b2, 0, none⟩) n2 c2, .slice (some ⟨b3, 0, none⟩) n3 c3, .slice (some ⟨b4, 0, none⟩) n4 c4, .slice (some ⟨b5, 0, none⟩) n5 c5, .slice (some ⟨b6, 0, none⟩) n6 c6, .slice (some ⟨b7, 0, none⟩) n7 c7, .slice (some ⟨w9.heap.size, 0, none⟩) 1 1, .int .i64 0, .slice none 0 0, .int .i64 0, .int .i64 host, .string ⟨#[97, 110, 110]⟩, .slice (some ⟨w9.heap.size + 1 + 1, 0, none⟩) 1 1, .bool true, .bool false, .int .u32 2048, .int .u32 3072, .int .u32 8192] := mid_row w9 (.cells #[.string ⟨#[115, 115, 104, 45, 101, 100, 50, 53, 53, 49, 57]⟩] 9) (.cells #[.int .i64 8] 3) #[.bool false, .string ⟨#[112, 108, 97, 105, 110]⟩, .string ⟨#[]⟩, .slice (some ⟨b0, 0, none⟩) n0 c0, .slice (some ⟨b1, 0, none⟩) n1 c1, .slice (some ⟨b2, 0, none⟩) n2 c2, .slice (some ⟨b3, 0, none⟩) n3 c3, .slice (some ⟨b4, 0, none⟩) n4 c4, .slice (some ⟨b5, 0, none⟩) n5 c5, .slice (some ⟨b6, 0, none⟩) n6 c6, .slice (some ⟨b7, 0, none⟩) n7 c7, .slice (some ⟨w9.heap.size, 0, none⟩) 1 1, .int .i64 0, .slice none 0 0, .int .i64 0, .int .i64 host, .string ⟨#[97, 110, 110]⟩, .slice (some ⟨w9.heap.size + 1 + 1, 0, none⟩) 1 1, .bool true, .bool false, .int .u32 2048, .int .u32 3072, .int .u32 8192] 51
                      have d3 := below3 w9 (.cells #[.string ⟨#[115, 115, 104, 45, 101, 100, 50, 53, 53, 49, 57]⟩] 9) (.cells #[.bool false, .string ⟨#[112, 108, 97, 105, 110]⟩, .string ⟨#[]⟩, .slice (some ⟨b0, 0, none⟩) n0 c0, .slice (some ⟨b1, 0, none⟩) n1 c1, .slice (some ⟨b2, 0, none⟩) n2 c2, .slice (some ⟨b3, 0, none⟩) n3 c3, .slice (some ⟨b4, 0, none⟩) n4 c4, .slice (some ⟨b5, 0, none⟩) n5 c5, .slice (some ⟨b6, 0, none⟩) n6 c6, .slice (some ⟨b7, 0, none⟩) n7 c7, .slice (some ⟨w9.heap.size, 0, none⟩) 1 1, .int .i64 0, .slice none 0 0, .int .i64 0, .int .i64 host, .string ⟨#[97, 110, 110]⟩, .slice (some ⟨w9.heap.size + 1 + 1, 0, none⟩) 1 1, .bool true, .bool false, .int .u32 2048, .int .u32 3072, .int .u32 8192] 51) (.cells #[.int .i64 8] 3)
                      have DW := Lib.hid (B9.out.trans (d3.mono B9.out.size))
                      have hU3 := HU.out.below d3
                      have HQA : Hid (CfAt (((w9.alloc (.cells #[.string ⟨#[115, 115, 104, 45, 101, 100, 50, 53, 53, 49, 57]⟩] 9)).alloc (.cells #[.bool false, .string ⟨#[112, 108, 97, 105, 110]⟩, .string ⟨#[]⟩, .slice (some ⟨b0, 0, none⟩) n0 c0, .slice (some ⟨b1, 0, none⟩) n1 c1, .slice (some ⟨b2, 0, none⟩) n2 c2, .slice (some ⟨b3, 0, none⟩) n3 c3, .slice (some ⟨b4, 0, none⟩) n4 c4, .slice (some ⟨b5, 0, none⟩) n5 c5, .slice (some ⟨b6, 0, none⟩) n6 c6, .slice (some ⟨b7, 0, none⟩) n7 c7, .slice (some ⟨w9.heap.size, 0, none⟩) 1 1, .int .i64 0, .slice none 0 0, .int .i64 0, .int .i64 host, .string ⟨#[97, 110, 110]⟩, .slice (some ⟨w9.heap.size + 1 + 1, 0, none⟩) 1 1, .bool true, .bool false, .int .u32 2048, .int .u32 3072, .int .u32 8192] 51)).alloc (.cells #[.int .i64 8] 3)) ({ sv := false, so := ⟨#[112, 108, 97, 105, 110]⟩, co := ⟨#[]⟩, a0 := some ⟨b0, 0, none⟩, n0 := n0, c0 := c0, a1 := some ⟨b1, 0, none⟩, n1 := n1, c1 := c1, a2 := some ⟨b2, 0, none⟩, n2 := n2, c2 := c2, a3 := some ⟨b3, 0, none⟩, n3 := n3, c3 := c3, a4 := some ⟨b4, 0, none⟩, n4 := n4, c4 := c4, a5 := some ⟨b5, 0, none⟩, n5 := n5, c5 := c5, a6 := some ⟨b6, 0, none⟩, n6 := n6, c6 := c6, a7 := some ⟨b7, 0, none⟩, n7 := n7, c7 := c7, aa := some ⟨w9.heap.size, 0, none⟩, na := 1, ca := 1, ow := 0, ag := none, ng := 0, cg := 0, li := 0, pe := host, us := ⟨#[97, 110, 110]⟩, ak := some ⟨w9.heap.size + 1 + 1, 0, none⟩, nk := 1, ck := 1, ex := true, gu := false, w0 := 2048, w1 := 3072, w2 := 8192 } : CfV) (plainD false)) := by
                        obtain ⟨e0, e1, e2, e3, e4, e5, e6, e7⟩ := HE.out
                        refine ⟨rfl, rfl, rfl, fun k hk => ?_, texts_one (x := edL) y1, GrantsAt.nil _, ids_one y3⟩
                        match k, hk with
                        | 0, _ =>
                          have h := hU3.at_ 0 (by omega)
                          rw [e0] at h
                          exact h
                        | 1, _ =>
                          have h := hU3.at_ 1 (by omega)
                          rw [e1] at h
                          exact h
                        | 2, _ =>
                          have h := hU3.at_ 2 (by omega)
                          rw [e2] at h
                          exact h
                        | 3, _ =>
                          have h := hU3.at_ 3 (by omega)
                          rw [e3] at h
                          exact h
                        | 4, _ =>
                          have h := hU3.at_ 4 (by omega)
                          rw [e4] at h
                          exact h
                        | 5, _ =>
                          have h := hU3.at_ 5 (by omega)
                          rw [e5] at h
                          exact h
                        | 6, _ =>
                          have h := hU3.at_ 6 (by omega)
                          rw [e6] at h
                          exact h
                        | 7, _ =>
                          have h := hU3.at_ 7 (by omega)
                          rw [e7] at h
                          exact h
                        | k + 8, h => exact absurd h (by omega)
                      have HQV : Hid (PlainV false host ({ sv := false, so := ⟨#[112, 108, 97, 105, 110]⟩, co := ⟨#[]⟩, a0 := some ⟨b0, 0, none⟩, n0 := n0, c0 := c0, a1 := some ⟨b1, 0, none⟩, n1 := n1, c1 := c1, a2 := some ⟨b2, 0, none⟩, n2 := n2, c2 := c2, a3 := some ⟨b3, 0, none⟩, n3 := n3, c3 := c3, a4 := some ⟨b4, 0, none⟩, n4 := n4, c4 := c4, a5 := some ⟨b5, 0, none⟩, n5 := n5, c5 := c5, a6 := some ⟨b6, 0, none⟩, n6 := n6, c6 := c6, a7 := some ⟨b7, 0, none⟩, n7 := n7, c7 := c7, aa := some ⟨w9.heap.size, 0, none⟩, na := 1, ca := 1, ow := 0, ag := none, ng := 0, cg := 0, li := 0, pe := host, us := ⟨#[97, 110, 110]⟩, ak := some ⟨w9.heap.size + 1 + 1, 0, none⟩, nk := 1, ck := 1, ex := true, gu := false, w0 := 2048, w1 := 3072, w2 := 8192 } : CfV)) := ⟨rfl, rfl, rfl, rfl, rfl, rfl, rfl, rfl, rfl⟩
                      obtain ⟨q, hq⟩ : ∃ q : CfV, Hid (q = ({ sv := false, so := ⟨#[112, 108, 97, 105, 110]⟩, co := ⟨#[]⟩, a0 := some ⟨b0, 0, none⟩, n0 := n0, c0 := c0, a1 := some ⟨b1, 0, none⟩, n1 := n1, c1 := c1, a2 := some ⟨b2, 0, none⟩, n2 := n2, c2 := c2, a3 := some ⟨b3, 0, none⟩, n3 := n3, c3 := c3, a4 := some ⟨b4, 0, none⟩, n4 := n4, c4 := c4, a5 := some ⟨b5, 0, none⟩, n5 := n5, c5 := c5, a6 := some ⟨b6, 0, none⟩, n6 := n6, c6 := c6, a7 := some ⟨b7, 0, none⟩, n7 := n7, c7 := c7, aa := some ⟨w9.heap.size, 0, none⟩, na := 1, ca := 1, ow := 0, ag := none, ng := 0, cg := 0, li := 0, pe := host, us := ⟨#[97, 110, 110]⟩, ak := some ⟨w9.heap.size + 1 + 1, 0, none⟩, nk := 1, ck := 1, ex := true, gu := false, w0 := 2048, w1 := 3072, w2 := 8192 } : CfV)) := ⟨_, Lib.hid rfl⟩
                      rw [← hq.out] at HQA HQV
                      have hRq : Hid (#[.bool false, .string ⟨#[112, 108, 97, 105, 110]⟩, .string ⟨#[]⟩, .slice (some ⟨b0, 0, none⟩) n0 c0, .slice (some ⟨b1, 0, none⟩) n1 c1, .slice (some ⟨b2, 0, none⟩) n2 c2, .slice (some ⟨b3, 0, none⟩) n3 c3, .slice (some ⟨b4, 0, none⟩) n4 c4, .slice (some ⟨b5, 0, none⟩) n5 c5, .slice (some ⟨b6, 0, none⟩) n6 c6, .slice (some ⟨b7, 0, none⟩) n7 c7, .slice (some ⟨w9.heap.size, 0, none⟩) 1 1, .int .i64 0, .slice none 0 0, .int .i64 0, .int .i64 host, .string ⟨#[97, 110, 110]⟩, .slice (some ⟨w9.heap.size + 1 + 1, 0, none⟩) 1 1, .bool true, .bool false, .int .u32 2048, .int .u32 3072, .int .u32 8192] = q.row) := by rw [hq.out]; exact Lib.hid rfl
                      rw [hRq.out] at y2 d3 DW HQA ⊢
                      obtain ⟨RQ, hRQ⟩ : ∃ R, Hid (R = q.row) := ⟨_, Lib.hid rfl⟩
                      rw [← hRQ.out] at y2 d3 DW HQA ⊢
                      have Y2 := Lib.hid y2
                      clear y1 y2 y3 hU3 HE HU hRq hq d3
                      generalize ((w9.alloc (.cells #[.string ⟨#[115, 115, 104, 45, 101, 100, 50, 53, 53, 49, 57]⟩] 9)).alloc (.cells RQ 51)).alloc (.cells #[.int .i64 8] 3) = W9 at *
                      obtain ⟨EQ, hEQ⟩ : ∃ E, Hid (E = w9.heap.size + 1) := ⟨_, Lib.hid rfl⟩
                      rw [← hEQ.out] at Y2 ⊢
                      clear hEQ
                      have DA := Lib.hid (B8.out.trans (DW.out.mono B8.out.size))
                      have DB := Lib.hid (D8.out.trans (DW.out.mono D8.out.size))
                      have HSQ : Hid (∀ W, Below W9.heap.size W9 W → Calls Tryd.prog 24 #[.agg RP, .agg RQ] W fun e w' => e = .returned (.bool true) ∧ Below W.heap.size W w') := fun W hb => by rw [hRP.out, hRQ.out]; exact same25_plain ((HPA8.out.below DW.out).below hb) (HQA.out.below hb) VP.out HQV.out
                      have HCk : Hid (∀ W, Below W9.heap.size W9 W → Calls Tryd.prog 27 #[.agg RP] W fun e w' => (if whoB host = true then e = .returned .nilIface else ∃ t u, e = .returned (.iface t u)) ∧ Below W.heap.size W w') := fun W hb => by rw [hRP.out]; exact check_plain25 ((HT0.out.below DA.out).below hb) ((HPA8.out.below DW.out).below hb) VP.out
                      have HXP9 : Hid (∀ W, Below W9.heap.size W9 W → Holds W EP 51 RP ∧ Holds W EQ 51 RQ ∧ Holds W w.heap.size 51 c.row ∧ Holds W E1 51 R1) := fun W hb => ⟨(hb.block _ (Holds.lt ((DW.out.block _ HXP.out.lt).trans HXP.out))).trans ((DW.out.block _ HXP.out.lt).trans HXP.out), (hb.block _ Y2.out.lt).trans Y2.out, HBx.out _ (DA.out.trans (hb.mono DA.out.size)), HX3.out _ (DB.out.trans (hb.mono DB.out.size))⟩
                      have HS9 : Hid (∀ W, Below W9.heap.size W9 W → Calls Tryd.prog 24 #[.agg c.row, .agg R1] W fun e w' => e = .returned (.bool true) ∧ Below W.heap.size W w') := fun W hb => HS3.out _ (DB.out.trans (hb.mono DB.out.size))
                      have HAw9 : Hid (∀ W, Below W9.heap.size W9 W → Calls Tryd.prog 19 #[] W fun e w' => e = .returned (.bool true) ∧ Below W.heap.size W w') := fun W hb => HAw.out _ (DA.out.trans (hb.mono DA.out.size))
                      have HEnd : Hid (∀ W, Below W9.heap.size W9 W → Below w.heap.size w W) := fun W hb => HB0.out.trans ((DA.out.trans (hb.mono DA.out.size)).mono HB0.out.size)
                      have H90 := Lib.hid (Below.refl W9.heap.size W9)
                      have zR1 : R1.size = 23 := by rw [hR1.out]; rfl
                      have zRP : RP.size = 23 := by rw [hRP.out]; rfl
                      have zRQ : RQ.size = 23 := by rw [hRQ.out]; rfl
                      have HZs := Lib.hid (And.intro zR1 (And.intro zRP zRQ))
                      clear zR1 zRP zRQ DW DA DB HPA8 VP HQA HQV B8 D8 B9 HXP Y2 HBx HX3 HS3 HAw HB0 HT0 hRP hRQ hR1 B3 B4 HPf
                      have ZR1 : Hid ((Tryd.prog.info? 51).map (·.size) = some R1.size) := by rw [HZs.out.1]; exact Lib.hid sizeZ
                      have ZRP : Hid ((Tryd.prog.info? 51).map (·.size) = some RP.size) := by rw [HZs.out.2.1]; exact Lib.hid sizeZ
                      have ZRQ : Hid ((Tryd.prog.info? 51).map (·.size) = some RQ.size) := by rw [HZs.out.2.2]; exact Lib.hid sizeZ
                      clear HZs
                      by_cases g0 : 0 ≤ host
                      · by_cases g1 : host ≤ 15
                        · have HW : Hid (whoB host = true) := Lib.hid (by unfold whoB; simp [g0, g1])
                          have q0 : decide (host ≥ 0) = true := decide_eq_true g0
                          have q1 : decide (host ≤ 15) = true := decide_eq_true g1
                          go_wp2_with (first
                            | (refine wpList_load_row_on (by rfl) 51 _ rfl w.heap.size rfl 51 c.row (0, 0) _ (HXP9.out _ HA.out).2.2.1 Tryd.underlying51 rfl (by exact sizeConfRow) ?_)
                            | (refine wpList_load_row_on (by rfl) 51 _ rfl E1 rfl 51 R1 (0, 0) _ (HXP9.out _ HA.out).2.2.2 Tryd.underlying51 rfl (by exact ZR1.out) ?_)
                            | (refine wpList_load_row_on (by rfl) 51 _ rfl EP rfl 51 RP (0, 0) _ (HXP9.out _ HB.out).1 Tryd.underlying51 rfl (by exact ZRP.out) ?_)
                            | (refine wpList_load_row_on (by rfl) 51 _ rfl EQ rfl 51 RQ (0, 0) _ (HXP9.out _ HB.out).2.1 Tryd.underlying51 rfl (by exact ZRQ.out) ?_)
                            | (refine wpList_load_row_on (by rfl) 51 _ rfl EP rfl 51 RP (0, 0) _ (HXP9.out _ HC9.out).1 Tryd.underlying51 rfl (by exact ZRP.out) ?_)
                            | (go_at_call 19; (with_reducible refine (HAw9.out _ H90.out).mono ?_); rintro e w10 ⟨rfl, b10⟩; have HA := Lib.hid (H90.out.trans (b10.mono H90.out.size)); clear b10)
                            | (go_at_call 24; (with_reducible refine (HS9.out _ HA.out).mono ?_); rintro e w11 ⟨rfl, b11⟩; have HB := Lib.hid (HA.out.trans (b11.mono HA.out.size)); clear b11)
                            | (go_at_call 24; (with_reducible refine (HSQ.out _ HB.out).mono ?_); rintro e w12 ⟨rfl, b12⟩; have HC9 := Lib.hid (HB.out.trans (b12.mono HB.out.size)); clear b12)
                            | (go_at_call 27; (with_reducible refine (HCk.out _ HC9.out).mono ?_); rintro e w13 ⟨hz, b13⟩; rw [if_pos (by rw [HW.out])] at hz; subst hz; have HD := Lib.hid (HC9.out.trans (b13.mono HC9.out.size)); clear b13)
                            | fail)
                          go_ret
                          exact ⟨rfl, HEnd.out _ HD.out⟩
                        · have HW : Hid (whoB host = false) := Lib.hid (by unfold whoB; simp [g0, g1])
                          have q0 : decide (host ≥ 0) = true := decide_eq_true g0
                          have q1 : decide (host ≤ 15) = false := decide_eq_false g1
                          go_wp2_with (first
                            | (refine wpList_load_row_on (by rfl) 51 _ rfl w.heap.size rfl 51 c.row (0, 0) _ (HXP9.out _ HA.out).2.2.1 Tryd.underlying51 rfl (by exact sizeConfRow) ?_)
                            | (refine wpList_load_row_on (by rfl) 51 _ rfl E1 rfl 51 R1 (0, 0) _ (HXP9.out _ HA.out).2.2.2 Tryd.underlying51 rfl (by exact ZR1.out) ?_)
                            | (refine wpList_load_row_on (by rfl) 51 _ rfl EP rfl 51 RP (0, 0) _ (HXP9.out _ HB.out).1 Tryd.underlying51 rfl (by exact ZRP.out) ?_)
                            | (refine wpList_load_row_on (by rfl) 51 _ rfl EQ rfl 51 RQ (0, 0) _ (HXP9.out _ HB.out).2.1 Tryd.underlying51 rfl (by exact ZRQ.out) ?_)
                            | (refine wpList_load_row_on (by rfl) 51 _ rfl EP rfl 51 RP (0, 0) _ (HXP9.out _ HC9.out).1 Tryd.underlying51 rfl (by exact ZRP.out) ?_)
                            | (go_at_call 19; (with_reducible refine (HAw9.out _ H90.out).mono ?_); rintro e w10 ⟨rfl, b10⟩; have HA := Lib.hid (H90.out.trans (b10.mono H90.out.size)); clear b10)
                            | (go_at_call 24; (with_reducible refine (HS9.out _ HA.out).mono ?_); rintro e w11 ⟨rfl, b11⟩; have HB := Lib.hid (HA.out.trans (b11.mono HA.out.size)); clear b11)
                            | (go_at_call 24; (with_reducible refine (HSQ.out _ HB.out).mono ?_); rintro e w12 ⟨rfl, b12⟩; have HC9 := Lib.hid (HB.out.trans (b12.mono HB.out.size)); clear b12)
                            | (go_at_call 27; (with_reducible refine (HCk.out _ HC9.out).mono ?_); rintro e w13 ⟨hz, b13⟩; rw [if_neg (by rw [HW.out]; simp)] at hz; obtain ⟨t, u, rfl⟩ := hz; have HD := Lib.hid (HC9.out.trans (b13.mono HC9.out.size)); clear b13)
                            | fail)
                          go_ret
                          exact ⟨rfl, HEnd.out _ HD.out⟩
                      · have HW : Hid (whoB host = false) := Lib.hid (by unfold whoB; simp [g0])
                        have q0 : decide (host ≥ 0) = false := decide_eq_false g0
                        go_wp2_with (first
                          | (refine wpList_load_row_on (by rfl) 51 _ rfl w.heap.size rfl 51 c.row (0, 0) _ (HXP9.out _ HA.out).2.2.1 Tryd.underlying51 rfl (by exact sizeConfRow) ?_)
                          | (refine wpList_load_row_on (by rfl) 51 _ rfl E1 rfl 51 R1 (0, 0) _ (HXP9.out _ HA.out).2.2.2 Tryd.underlying51 rfl (by exact ZR1.out) ?_)
                          | (refine wpList_load_row_on (by rfl) 51 _ rfl EP rfl 51 RP (0, 0) _ (HXP9.out _ HB.out).1 Tryd.underlying51 rfl (by exact ZRP.out) ?_)
                          | (refine wpList_load_row_on (by rfl) 51 _ rfl EQ rfl 51 RQ (0, 0) _ (HXP9.out _ HB.out).2.1 Tryd.underlying51 rfl (by exact ZRQ.out) ?_)
                          | (refine wpList_load_row_on (by rfl) 51 _ rfl EP rfl 51 RP (0, 0) _ (HXP9.out _ HC9.out).1 Tryd.underlying51 rfl (by exact ZRP.out) ?_)
                          | (go_at_call 19; (with_reducible refine (HAw9.out _ H90.out).mono ?_); rintro e w10 ⟨rfl, b10⟩; have HA := Lib.hid (H90.out.trans (b10.mono H90.out.size)); clear b10)
                          | (go_at_call 24; (with_reducible refine (HS9.out _ HA.out).mono ?_); rintro e w11 ⟨rfl, b11⟩; have HB := Lib.hid (HA.out.trans (b11.mono HA.out.size)); clear b11)
                          | (go_at_call 24; (with_reducible refine (HSQ.out _ HB.out).mono ?_); rintro e w12 ⟨rfl, b12⟩; have HC9 := Lib.hid (HB.out.trans (b12.mono HB.out.size)); clear b12)
                          | (go_at_call 27; (with_reducible refine (HCk.out _ HC9.out).mono ?_); rintro e w13 ⟨hz, b13⟩; rw [if_neg (by rw [HW.out]; simp)] at hz; obtain ⟨t, u, rfl⟩ := hz; have HD := Lib.hid (HC9.out.trans (b13.mono HC9.out.size)); clear b13)
                          | fail)
                        go_ret
                        exact ⟨rfl, HEnd.out _ HD.out⟩
  · have HF : Hid (Calls Tryd.prog 18 #[.agg c.row] W0 fun e w' => e = .returned (.bool false) ∧ Below W0.heap.size W0 w') := HFw.mono fun e w' ⟨z, h1, h2, h3⟩ => ⟨by
      rw [h1]
      cases z with
      | false => rfl
      | true => exact absurd (h2.1 rfl) hf, h3⟩
    clear hT h h8 hm b0 hX HFw hf
    go_enter Tryd.func5, Tryd.ntmps5
    go_wp2_with (first
      | (refine wpList_load_row rfl 51 _ rfl w.heap.size rfl 51 c.row (0, 0) _ (by rw [← hW0.out]; exact hXl.out) Tryd.underlying51 rfl (by exact sizeConfRow) ?_)
      | (go_at_call 18; rw [← hW0.out]; (with_reducible refine HF.out.mono ?_); rintro e w1 ⟨rfl, b1⟩; have B1 := Lib.hid b1)
      | (go_at_call 19; (with_reducible refine (HAw.out _ B1.out).mono ?_); rintro e w2 ⟨rfl, b2⟩))
    go_ret
    exact ⟨rfl, HB0.out.trans ((B1.out.trans (b2.mono B1.out.size)).mono HB0.out.size)⟩
end Go.Proofs.YtgoinpibllomfaaDoor
