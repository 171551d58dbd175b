/- Encode where a value is wrong.
The document's Encode.
Encode where no form fits, on both sides. -/
import Derived.Test.YtpiklkbjfpfejaaGreatDoorMe1
import Derived.Test.YtpiklkbjfpfejaaGreatDoorFltB
import Derived.Test.YtpiklkbjfpfejaaGreatDoorSp3
import Derived.Test.YtpiklkbjfpfejaaGreatDoorPutW
import Derived.Test.YtpiklkbjfpfejaaGreatDoorRq3
import Derived.Test.YtpiklkbjfpfejaaGreatDoorMd1
namespace Go.Proofs.YtpiklkbjfpfejaaGreatDoor
open Go.RowKit

set_option maxHeartbeats 2000000 in
set_option maxRecDepth 100000 in
theorem encode_wrong {w : World} {v : Value} {fs : List FieldR} (hv : FieldsAt w v fs) (hT : TabAt w) (num : Int) (Fl : List UInt8) (hfit : fitP (formsP num) fs.length = (bs Fl, true)) (hsz : Fl.length = fs.length) (hasc : ∀ c ∈ Fl, c.toNat < 128)
    (hfo : ∀ x ∈ fs, FieldOk x) (j : Nat) (hj : j < fs.length) (hl : fs.length ≤ 100) (hok : ∀ k, k < j → (writeP ((Fl.getD k 0).toNat : Int) (fs.getD k zeroF)).2 = 0) (hmax : 1 + (encK Fl fs j).length ≤ 32768) (ec : Nat) (hec : ec ≠ 0) (hbad : (writeP ((Fl.getD j 0).toNat : Int) (fs.getD j zeroF)).2 = ec) :
    Calls Tryz.prog 8 #[msgV num v] w fun e w' => ∃ t u, e = .returned (.tuple #[.string ⟨#[]⟩, .iface t u]) ∧ ErrAt w' (.iface t u) [wordP num, placeB j] (some (ec : Int)) ∧ Below w.heap.size w w' := by
  have HFit := Lib.hid (fun W => fit_any W num (fs.length : Int))
  have HWord : Hid (∀ W, Below w.heap.size w W → Calls Tryz.prog 16 #[.int .i64 num] W fun e w' => e = .returned (.string (wordP num)) ∧ Below W.heap.size W w') := fun W hb => word_any (hT.below hb) num
  obtain ⟨ao, cap, rfl, hcap, hlen, hin, hf⟩ := hv
  rw [hfit] at HFit
  unfold msgV
  have hBA : Below w.heap.size w (w.alloc (.cells #[.int .i64 num, .slice ao fs.length cap] 24)) := (Below.refl w.heap.size w).alloc (Nat.le_refl _) _
  have HBA := Lib.hid hBA
  simp only at HFit
  have HH := Lib.hid (Holds.new w 24 #[.int .i64 num, .slice ao fs.length cap])
  have hb8e : ((nextB num).toNat : Int) = num % 256 := by unfold nextB; rw [UInt8.toNat_ofNat']; omega
  have HBy : Hid (∀ W, Calls Tryz.prog 17 #[.int .u8 (num % 256)] W fun e w' => e = .returned (.string (bs [nextB num])) ∧ Below W.heap.size W w') := fun W => by rw [← hb8e]; exact wByte_any _ W
  have HC8 := Lib.hid (fun W => conv_own W [nextB num] (by simp))
  have HFl : Hid (∀ W, Below w.heap.size w W → ∀ k, k < fs.length → ∃ b off, ao = some ⟨b, off, none⟩ ∧ FieldAt W b off k (fs.getD k zeroF)) := fun W hb k hk => by
    obtain ⟨b, off, rfl, hbl, h⟩ := hf (by rintro rfl; simp at hk)
    exact ⟨b, off, rfl, (h k _ (by rw [List.getD_eq_getElem?_getD, List.getElem?_eq_getElem hk]; rfl)).below hbl hb⟩
  have HFo : Hid (∀ k, k < fs.length → FieldOk (fs.getD k zeroF)) := fun k hk => hfo _ (by rw [List.getD_eq_getElem?_getD, List.getElem?_eq_getElem hk]; exact List.getElem_mem hk)
  have HNx : Hid (∀ (W : World) (k it : Nat), k < fs.length → W.heap[it]? = some (.stringIter (bs Fl) k) → ∀ ty, (Instr.next (.pointer (some ⟨it, 0, none⟩)) true ty).run Tryz.prog W = .ok (.tuple #[.bool true, .int .i64 k, .int .i32 ((Fl.getD k 0).toNat : Int)]) (W.iterAt it (bs Fl) (k + 1))) := fun W k it hk hi ty => by
    have hkF : k < Fl.length := by omega
    have hg : ((bs Fl)[k]'(by rw [bs_size]; exact hkF)) = Fl[k] := by simp [bs, ByteArray.getElem_eq_getElem_data]
    have := Lib.run_next_ascii_at (P := Tryz.prog) W it (bs Fl) k ty hi (by rw [bs_size]; exact hkF) (by rw [hg]; exact hasc _ (List.getElem_mem hkF))
    rw [hg] at this
    rw [this]
    simp [List.getD, hkF]
  have HNe : Hid (∀ (W : World) (it : Nat), W.heap[it]? = some (.stringIter (bs Fl) fs.length) → ∀ ty, (Instr.next (.pointer (some ⟨it, 0, none⟩)) true ty).run Tryz.prog W = .ok (.tuple #[.bool false]) W) := fun W it hi ty =>
    Lib.run_next_end_at (P := Tryz.prog) W it (bs Fl) fs.length ty hi (by rw [bs_size]; omega)
  have HOk := Lib.hid hok
  have HMax := Lib.hid hmax
  have HBad := Lib.hid hbad
  have HJ := Lib.hid hj
  have HI : Hid (∀ W, Calls Tryz.prog 20 #[.int .i64 j] W fun e w' => e = .returned (.string (placeB j)) ∧ w' = W) := fun W => Tryz.strconv_Itoa_small j (by omega) W
  have HO : Hid (∀ W, Calls Tryz.prog 15 #[.string (placeB j), .int .i64 ec] W fun r w' => ∃ t u, r = .returned (.iface t u) ∧ ErrAt w' (.iface t u) [placeB j] (some (ec : Int)) ∧ Below W.heap.size W w') := fun W =>
    (fOf_any (placeB j) ec (by omega) W).mono fun r w' ⟨v', h1, h2, h3, h4⟩ => by
      cases h2
      exact ⟨_, _, h1, .fault ‹_› ‹_› ‹_› ‹_›, h4⟩
  have HA : Hid (∀ W (t : TypeId) (u : Value), ErrAt W (.iface t u) [placeB j] (some (ec : Int)) → Calls Tryz.prog 19 #[.string (wordP num), .iface t u] W fun r w' => ∃ t u, r = .returned (.iface t u) ∧ ErrAt w' (.iface t u) [wordP num, placeB j] (some (ec : Int)) ∧ Below W.heap.size W w') := fun W t u he =>
    (fAt_any he (by simp) (wordP num)).mono fun r w' ⟨v', h1, h2, h3, h4⟩ => by
      cases h2
      exact ⟨_, _, h1, .fault ‹_› ‹_› ‹_› ‹_›, h4⟩
  have HEc : Hid (((ec : Int) != 0) = true) := by show _ = true; rw [bne_iff_ne]; omega
  generalize wordP num = WD at *
  generalize nextB num = b8 at *
  clear hin hf hBA hb8e hfo hok hmax hbad hec hj hl hsz hasc hfit
  generalize placeB j = PB at *
  generalize bs Fl = F at *
  have HM : Hid (∃ m, m = fs.length) := ⟨_, rfl⟩
  obtain ⟨m, hm⟩ := HM.out
  have HMe := Lib.hid hm
  rw [← hm] at HFit HBA HH HFl HFo HNx HNe HJ hcap hlen ⊢
  clear hm HM
  go_enter Tryz.func8, Tryz.ntmps8
  go_wp2_with (first
    | (go_at_call 14; with_reducible refine (HFit.out _).mono ?_; rintro e w1 ⟨rfl, b1⟩; have hb1 := HBA.out.trans (b1.mono HBA.out.size); have hH1 := HH.out.moves (Moves.ofBelow (S := nobody) b1) (fun h => h); have c0 := hH1.cell 0; have c1 := hH1.cell 1)
    | (go_at_call 16; with_reducible refine (HWord.out _ hb1).mono ?_; rintro e w2 ⟨rfl, b2⟩; have hb2 := hb1.trans (b2.mono hb1.size); have hH2 := hH1.moves (Moves.ofBelow (S := nobody) b2) (fun h => h); have d0 := hH2.cell 0; have d1 := hH2.cell 1)
    | (go_at_call 17; with_reducible refine (HBy.out _).mono ?_; rintro e w3 ⟨rfl, b3⟩; have hb3 := hb2.trans (b3.mono hb2.size); have hH3 := hH2.moves (Moves.ofBelow (S := nobody) b3) (fun h => h); obtain ⟨c4, W4, hcv, hown, bW, hsz⟩ := HC8.out w3))
  have hH4 := hH3.moves (Moves.ofBelow (S := nobody) bW) (fun h => h)
  have hb4 := hb3.trans (bW.mono hb3.size)
  have hgw : w.heap.size ≤ w3.heap.size := hb3.size
  have hit5 : (W4.iter F 0).heap[w3.heap.size + 1]? = some (.stringIter F 0) := by rw [← hsz]; exact World.iter_heap W4 F 0
  have hb5 : Below w.heap.size w (W4.iter F 0) := hb4.alloc hb4.size _
  have hown5 : OwnB (W4.iter F 0) w.heap.size (.slice (some ⟨w3.heap.size, 0, none⟩) [b8].length c4) [b8] := (hown.below ((Below.refl W4.heap.size W4).alloc (Nat.le_refl _) _)).lower hgw
  have hH5 : Holds (W4.iter F 0) w.heap.size 24 #[.int .i64 num, .slice ao m cap] := hH4.moves ((Moves.refl nobody W4).alloc _) (fun h => h)
  have HI5 := Lib.hid hit5
  have HB5 := Lib.hid hb5
  have HO5 := Lib.hid hown5
  have HH5 := Lib.hid hH5
  have hitw : w.heap.size < w3.heap.size + 1 := by omega
  clear hit5 hb5 hown5 hH5 hb4 hH4 bW hown hcv b3 hb3 hH3 b2 hb2 hH2 b1 hb1 hH1 c0 c1 d0 d1 hsz hgw
  generalize w3.heap.size = G at *
  generalize W4.iter F 0 = W5 at *
  go_loopw [7] (fun p wr => ∃ k g c, k ≤ j ∧ p = .slice (some ⟨g, 0, none⟩) (b8 :: encK Fl fs k).length c ∧ OwnB wr w.heap.size p (b8 :: encK Fl fs k) ∧ wr.heap[G + 1]? = some (.stringIter F k) ∧ Holds wr w.heap.size 24 #[.int .i64 num, .slice ao m cap] ∧ Below w.heap.size w wr) (fun _ wr => m - itPos wr (G + 1))
  case atStart => exact ⟨0, G, c4, Nat.zero_le _, rfl, HO5.out, HI5.out, HH5.out, HB5.out⟩
  case round =>
    obtain ⟨k, g, c, hk, rfl, how, hit, hH, hbel⟩ := hrel
    have hlm : k < m := by have := HJ.out; omega
    by_cases hlt : k < j
    · have hnx := HNx.out wr k (G + 1) hlm hit
      have hV : Below w.heap.size w (wr.iterAt (G + 1) F (k + 1)) := Lib.below_iterAt hbel (by omega) F (k + 1)
      have HOw := Lib.hid (how.iter hit (k + 1))
      have HHv := Lib.hid (hH.moves (iter_moves wr (G + 1) F (k + 1)) (by omega))
      have HIt := Lib.hid (Lib.iterAt_heap wr (G + 1) F k (k + 1) hit)
      have hn1 : (wr.iterAt (G + 1) F (k + 1)).cell? ⟨w.heap.size, 1, none⟩ = some (.slice ao m cap) := HHv.out.cell 1
      obtain ⟨b, off, rfl, y0, y1, y2, a2, cap2, y3, hcap2, hT2⟩ := HFl.out _ hV k hlm
      have hw0 := HOk.out k hlt
      have HWr := Lib.hid (fun W (hb : Below (wr.iterAt (G + 1) F (k + 1)).heap.size (wr.iterAt (G + 1) F (k + 1)) W) => write_any ((Fl.getD k 0).toNat : Int) (hT2.below hb) (fun ao' cap' e => by injection e with _ _ e; omega) (HFo.out k hlm))
      have HEk : Hid (encK Fl fs (k + 1) = encK Fl fs k ++ (writeP ((Fl.getD k 0).toNat : Int) (fs.getD k zeroF)).1) := rfl
      have HLe : Hid ((b8 :: encK Fl fs k).length + (writeP ((Fl.getD k 0).toNat : Int) (fs.getD k zeroF)).1.length ≤ 32768) := by
        have h1 := encK_mono Fl fs (show k + 1 ≤ j by omega)
        have h2 := HMax.out
        rw [HEk.out, List.length_append] at h1
        show _ ≤ _
        rw [List.length_cons]
        omega
      unfold wroteV fieldV at HWr
      rw [hw0] at HWr
      generalize fs.getD k zeroF = x at *
      generalize (writeP ((Fl.getD k 0).toNat : Int) x).1 = fm at *
      have HVb := Lib.hid hV
      have hIp : itPos wr (G + 1) = k := by unfold itPos; rw [hit]
      have HIp := Lib.hid hIp
      have hcons : (b8 :: encK Fl fs k) ++ fm = b8 :: encK Fl fs (k + 1) := by rw [HEk.out]; rfl
      have HCons := Lib.hid hcons
      have q1 : ¬ ((b8 :: encK Fl fs k).length : Int) + (fm.length : Int) > 32768 := by have := HLe.out; omega
      have hfml : (bs fm).size = fm.length := bs_size fm
      have hwrap : IntKind.i64.wrap (((b8 :: encK Fl fs k).length : Int) + (fm.length : Int)) = ((b8 :: encK Fl fs k).length : Int) + (fm.length : Int) := IntWalk.i64_in _ (by have := HLe.out; omega)
      obtain ⟨kd, xn, xs, xl⟩ := x
      clear hV hw0 hT2 hbel how hH hit hIp hcons
      generalize (Fl.getD k 0).toNat = lt at *
      generalize b8 :: encK Fl fs k = Q at *
      generalize bs xs = S at *
      generalize xl.length = xll at *
      go_wp2_with (first
        | (go_at_call 18
           with_reducible refine (HWr.out _ (Below.refl _ _)).mono ?_
           rintro e w6 ⟨rfl, b6⟩
           have hown6 := HOw.out.below b6
           have hit6 : w6.heap[G + 1]? = some (.stringIter F (k + 1)) := (b6.block (G + 1) (Array.getElem?_eq_some_iff.1 HIt.out).1).trans HIt.out
           have hH6 := HHv.out.moves (Moves.ofBelow (S := nobody) b6) (fun h => h)
           have hb6 := HVb.out.trans (b6.mono HVb.out.size))
        | (at_builtin
           refine wpList_appB (v := .slice (some ⟨g, 0, none⟩) Q.length c) rfl (.tmp 64) (.tmp 65) rfl rfl rfl hown6 fm rfl ?b1 hb6.size ?_
           case b1 => exact Nat.le_trans HLe.out (by omega)
           intro g4 c4' w7 how7 hg7))
      have m7 : Moves (fun i => i = g) w6 w7 := (Moves.refl (fun i => i = g) w6).grown hg7 fun j hj => .inl (by simpa [Value.ownBlock] using hj.symm)
      have hgb : w.heap.size ≤ g := by
        obtain ⟨g', _, e, h, _⟩ := hown6.block
        injection e with e
        injection e with e
        injection e with e
        omega
      have hit7 : w7.heap[G + 1]? = some (.stringIter F (k + 1)) := (m7.block (G + 1) (Array.getElem?_eq_some_iff.1 hit6).1 (hown6.ne_iter hit6)).trans hit6
      have hH7 := hH6.moves m7 (hown6.ne_holds hH6 (by decide))
      have hb7 := hb6.trans (m7.below hb6.size fun i hi => by omega)
      have hlen7 : Q.length + fm.length = (b8 :: encK Fl fs (k + 1)).length := by rw [← HCons.out, List.length_append]
      rw [HCons.out] at how7
      go_roundw
      case rel => exact ⟨k + 1, g4, c4', by omega, by rw [hlen7], by rw [hlen7]; exact how7, hit7, hH7, hb7⟩
      case measure =>
        have h1 := HIp.out
        have h2 : itPos w7 (G + 1) = k + 1 := by unfold itPos; rw [hit7]
        rw [h1, h2]
        omega
    · have hkj : k = j := by omega
      subst hkj
      have hnx := HNx.out wr k (G + 1) hlm hit
      have hV : Below w.heap.size w (wr.iterAt (G + 1) F (k + 1)) := Lib.below_iterAt hbel (by omega) F (k + 1)
      have HOw := Lib.hid (how.iter hit (k + 1))
      have HHv := Lib.hid (hH.moves (iter_moves wr (G + 1) F (k + 1)) (by omega))
      have HIt := Lib.hid (Lib.iterAt_heap wr (G + 1) F k (k + 1) hit)
      have hn1 : (wr.iterAt (G + 1) F (k + 1)).cell? ⟨w.heap.size, 1, none⟩ = some (.slice ao m cap) := HHv.out.cell 1
      obtain ⟨b, off, rfl, y0, y1, y2, a2, cap2, y3, hcap2, hT2⟩ := HFl.out _ hV k hlm
      have hw0 := HBad.out
      have HWr := Lib.hid (fun W (hb : Below (wr.iterAt (G + 1) F (k + 1)).heap.size (wr.iterAt (G + 1) F (k + 1)) W) => write_any ((Fl.getD k 0).toNat : Int) (hT2.below hb) (fun ao' cap' e => by injection e with _ _ e; omega) (HFo.out k hlm))
      unfold wroteV fieldV at HWr
      rw [hw0] at HWr
      generalize fs.getD k zeroF = x at *
      generalize (writeP ((Fl.getD k 0).toNat : Int) x).1 = fm at *
      have HVb := Lib.hid hV
      have q1 := HEc.out
      obtain ⟨kd, xn, xs, xl⟩ := x
      clear hV hw0 hT2 hbel how hH hit
      generalize (Fl.getD k 0).toNat = lt at *
      generalize b8 :: encK Fl fs k = Q at *
      generalize bs xs = S at *
      generalize xl.length = xll at *
      go_wp2_with (first
        | (go_at_call 18
           with_reducible refine (HWr.out _ (Below.refl _ _)).mono ?_
           rintro e w6 ⟨rfl, b6⟩
           have hb6 := HVb.out.trans (b6.mono HVb.out.size))
        | (go_at_call 20; refine (HI.out _).mono ?_; rintro e w7 ⟨rfl, hw7⟩; have hw7 := hw7.symm; subst hw7)
        | (go_at_call 15
           with_reducible refine (HO.out _).mono ?_
           rintro e w8 ⟨t, u, rfl, he, b8'⟩)
        | (go_at_call 19
           with_reducible refine (HA.out _ _ _ he).mono ?_
           rintro e w9 ⟨t', u', rfl, he', b9⟩)
        | fail)
      go_ret2
      have hb8 := hb6.trans (b8'.mono hb6.size)
      exact ⟨t', u', rfl, he', hb8.trans (b9.mono hb8.size)⟩
end Go.Proofs.YtpiklkbjfpfejaaGreatDoor

namespace Go.Proofs.YtpiklkbjfpfejaaGreatDoor
open Go.RowKit

theorem field_row1 (z : Int) (s : ByteArray) (ao : Option Addr) (n cap : Nat) (W : World) : (Instr.field 58 (.agg #[.int .i64 z, .string s, .slice ao n cap]) 1).run Tryz.prog W = .ok (.string s) W := by kernel_rfl
set_option maxHeartbeats 2000000 in
set_option maxRecDepth 100000 in
theorem rencode_any {w : World} {v : Value} {fs : List FieldR} (hv : FieldsAt w v fs) (num : Int) (Fl : List UInt8) (hfit : fitP (formsP num) fs.length = (bs Fl, true)) (hsz : Fl.length = fs.length) (hl : fs.length < 20)
    (hlet : ∀ c ∈ Fl, isLetter c = true) (hfo : ∀ x ∈ fs, FieldOk x) (hmax : 1 + (encK Fl fs fs.length).length ≤ 32768) :
    Calls Tryz.prog 9 #[msgV num v] w fun e w' => Below w.heap.size w w' ∧
      ((∃ j, j < fs.length ∧ (∀ k, k < j → (writeP ((Fl.getD k 0).toNat : Int) (fs.getD k zeroF)).2 = 0) ∧ (writeP ((Fl.getD j 0).toNat : Int) (fs.getD j zeroF)).2 ≠ 0 ∧
          e = .returned (.tuple #[.string ⟨#[]⟩, .agg #[.int .i64 ((writeP ((Fl.getD j 0).toNat : Int) (fs.getD j zeroF)).2 : Int), .string (wordP num ++ blankS ++ (placeB j ++ blankS))]])) ∨
       ((∀ k, k < fs.length → (writeP ((Fl.getD k 0).toNat : Int) (fs.getD k zeroF)).2 = 0) ∧ e = .returned (.tuple #[.string (bs (nextB num :: encK Fl fs fs.length)), .agg #[.int .i64 0, .string ⟨#[]⟩]]))) := by
  have HFit := Lib.hid (fun W => fit6_any W num (fs.length : Int))
  obtain ⟨ao, cap, rfl, hcap, hlen, hin, hf⟩ := hv
  rw [hfit] at HFit
  simp only at HFit
  unfold msgV
  have hb8e : ((nextB num).toNat : Int) = num % 256 := by unfold nextB; rw [UInt8.toNat_ofNat']; omega
  have HBy : Hid (∀ W, Calls Tryz.prog 23 #[.int .u8 (num % 256)] W fun e w' => e = .returned (.string (bs [nextB num])) ∧ Below W.heap.size W w') := fun W => by rw [← hb8e]; exact qB_byte _ W
  have HOf : Hid (∀ W, Calls Tryz.prog 22 #[.int .i64 num] W fun e w' => ∃ z n ao cap, e = .returned (.agg #[.int .i64 z, .string (wordP num), .slice ao n cap]) ∧ Below W.heap.size W w') := fun W =>
    (of_any W num).mono fun e w' ⟨v, h1, hv, h3⟩ => by
      obtain ⟨ao, cap, h2, _⟩ := hv
      exact ⟨(ofP num).1, (ofP num).2.2.length, ao, cap, by rw [h1, h2, ofP_word], h3⟩
  have HWl : Hid ((wordP num).size ≤ 100) := by
    show _ ≤ _
    unfold wordP
    cases hr : rowP num with
    | none => exact Nat.zero_le _
    | some r =>
      have hm := List.mem_of_find?_eq_some hr
      have : ∀ r ∈ tableP, r.2.1.size ≤ 100 := by decide
      exact this r hm
  have hH0 := (Holds.new w 24 #[.int .i64 num, .slice ao fs.length cap]).moves ((Moves.refl nobody _).alloc (.cells #[.int .i64 0, .string ⟨#[]⟩] 33)) (fun h => h)
  have hE0 := Holds.new (w.alloc (.cells #[.int .i64 num, .slice ao fs.length cap] 24)) 33 #[.int .i64 0, .string ⟨#[]⟩]
  rw [World.size_alloc] at hE0
  have hB0 : Below w.heap.size w ((w.alloc (.cells #[.int .i64 num, .slice ao fs.length cap] 24)).alloc (.cells #[.int .i64 0, .string ⟨#[]⟩] 33)) := ((Below.refl _ w).alloc (Nat.le_refl _) _).alloc (by simp) _
  have HH0 := Lib.hid hH0
  have HE0 := Lib.hid hE0
  have HB0 := Lib.hid hB0
  have HFl : Hid (∀ W, Below w.heap.size w W → ∀ k, k < fs.length → ∃ b off, ao = some ⟨b, off, none⟩ ∧ FieldAt W b off k (fs.getD k zeroF)) := fun W hb k hk => by
    obtain ⟨b, off, rfl, hbl, h⟩ := hf (by rintro rfl; simp at hk)
    exact ⟨b, off, rfl, (h k _ (by rw [List.getD_eq_getElem?_getD, List.getElem?_eq_getElem hk]; rfl)).below hbl hb⟩
  have HFo : Hid (∀ k, k < fs.length → FieldOk (fs.getD k zeroF)) := fun k hk => hfo _ (by rw [List.getD_eq_getElem?_getD, List.getElem?_eq_getElem hk]; exact List.getElem_mem hk)
  have HLt : Hid (∀ k, k < fs.length → isLetter (Fl.getD k 0) = true) := fun k hk => hlet _ (by rw [List.getD_eq_getElem?_getD, List.getElem?_eq_getElem (by omega)]; exact List.getElem_mem (by omega))
  have HIx : Hid (∀ k, k < fs.length → ∀ W : World, (Instr.index 9 (.string (bs Fl)) (.int .i64 k)).run Tryz.prog W = .ok (.int .u8 ((Fl.getD k 0).toNat : Int)) W) := fun k hk W => by
    have := index_bs Fl k (by omega) W
    rw [this]
    simp [List.getD, show k < Fl.length by omega]
  have HMax := Lib.hid hmax
  have hFs : (bs Fl).size = fs.length := by rw [bs_size, hsz]
  have HL20 := Lib.hid hl
  obtain ⟨WD, hWD⟩ : ∃ x, x = wordP num := ⟨_, rfl⟩
  rw [← hWD] at HOf HWl ⊢
  have hadd1 : ∀ W : World, (Op.stringOp .add WD ⟨#[32]⟩).run Tryz.prog W = .ok (.string (WD ++ blankS)) W := fun W => by
    exact run_string_add_sum (P := Tryz.prog) W WD blankS (by have h1 := HWl.out; have : blankS.size = 1 := rfl; omega)
  clear hWD hH0 hE0 hB0 hin hf hb8e hfit hsz hfo hlet hmax hl
  generalize nextB num = b8 at *
  have HM : Hid (∃ m, m = fs.length) := ⟨_, rfl⟩
  obtain ⟨m, hm⟩ := HM.out
  have HMe := Lib.hid hm
  rw [← hm] at HFit HH0 HE0 HB0 HFl HFo HLt HIx hFs HL20 hcap hlen ⊢
  rw [← hm] at HMax
  clear hm HM
  generalize bs Fl = F at *
  go_enter Tryz.func9, Tryz.ntmps9
  generalize hW0 : (w.alloc (.cells #[.int .i64 num, .slice ao m cap] 24)).alloc (.cells #[.int .i64 0, .string ⟨#[]⟩] 33) = W0 at *
  have c0 := HH0.out.cell 0
  have c1 := HH0.out.cell 1
  go_wp2_with (first
    | (go_at_call 21; with_reducible refine (HFit.out _).mono ?_; rintro e w1 ⟨rfl, b1⟩
       have hB1 := HB0.out.trans (b1.mono HB0.out.size)
       have hH1 := HH0.out.moves (Moves.ofBelow (S := nobody) b1) (fun h => h)
       have hE1 := HE0.out.moves (Moves.ofBelow (S := nobody) b1) (fun h => h)
       have d0 := hH1.cell 0; have d1 := hH1.cell 1)
    | (go_at_call 22; with_reducible refine (HOf.out _).mono ?_; rintro e w2 ⟨z, n, ao2, cap2, rfl, b2⟩
       have hB2 := hB1.trans (b2.mono hB1.size)
       have hH2 := hH1.moves (Moves.ofBelow (S := nobody) b2) (fun h => h)
       have hE2 := hE1.moves (Moves.ofBelow (S := nobody) b2) (fun h => h)
       have g0 := hH2.cell 0; have g1 := hH2.cell 1; have gf := field_row1 z WD ao2 n cap2)
    | (go_at_call 23; with_reducible refine (HBy.out _).mono ?_; rintro e w3 ⟨rfl, b3⟩
       have hB3 := hB2.trans (b3.mono hB2.size)
       have hH3 := hH2.moves (Moves.ofBelow (S := nobody) b3) (fun h => h)
       have hE3 := hE2.moves (Moves.ofBelow (S := nobody) b3) (fun h => h))
    | fail)
  have HB3 := Lib.hid hB3
  have HH3 := Lib.hid hH3
  have HE3 := Lib.hid hE3
  clear hB1 hB2 hB3 hH1 hH2 hH3 hE1 hE2 hE3 b1 b2 b3 c0 c1 d0 d1 g0 g1 gf HH0 HE0 HB0 hW0 HFit HOf HBy hadd1
  go_loopw [7, 8] (fun p i wr => ∃ k : Nat, k ≤ m ∧ p = .string (bs (b8 :: encK Fl fs k)) ∧ i = .int .i64 k ∧ (∀ j, j < k → (writeP ((Fl.getD j 0).toNat : Int) (fs.getD j zeroF)).2 = 0) ∧ Below w.heap.size w wr ∧ Holds wr (w.heap.size + 1) 33 #[.int .i64 0, .string ⟨#[]⟩] ∧ Holds wr w.heap.size 24 #[.int .i64 num, .slice ao m cap]) (fun _ i _ => m - (intOf i).toNat)
  case atStart => exact ⟨0, Nat.zero_le _, rfl, rfl, fun j hj => absurd hj (Nat.not_lt_zero _), HB3.out, HE3.out, HH3.out⟩
  case round =>
    obtain ⟨k, hk, rfl, rfl, hok, hbel, hE, hH⟩ := hrel
    have HOk := Lib.hid hok
    have e0 := hE.cell 0
    have e1 := hE.cell 1
    have k0 := hE.frozen 0
    have k1 := hE.frozen 1
    have m1 := hH.cell 1
    by_cases hlt : k < m
    · obtain ⟨b, off, rfl, y0, y1, y2, a2, cap4, y3, hcap4, hT2⟩ := HFl.out wr hbel k hlt
      have hix := HIx.out k hlt
      have hfo := HFo.out k hlt
      have hle := HLt.out k hlt
      have HEk : Hid (encK Fl fs (k + 1) = encK Fl fs k ++ (writeP ((Fl.getD k 0).toNat : Int) (fs.getD k zeroF)).1) := rfl
      have hk20 : k < 20 := by have := HL20.out; omega
      have HPl := Lib.hid (fun W => place_any k hk20 W)
      have hpb : (placeB k ++ blankS).size ≤ 100 := by
        rw [place_of k hk20]
        split <;> (show _ ≤ _; simp [ByteArray.size])
      have hwb : (WD ++ blankS).size ≤ 200 := by
        have h1 := HWl.out
        have h2 : blankS.size = 1 := rfl
        rw [ByteArray.size_append]
        omega
      have hadd2 : ∀ W : World, (Op.stringOp .add (WD ++ blankS) (placeB k ++ blankS)).run Tryz.prog W = .ok (.string (WD ++ blankS ++ (placeB k ++ blankS))) W := fun W => run_string_add_sum (P := Tryz.prog) W _ _ (by omega)
      have HPost : Hid (∀ c : Nat, c ≠ 0 → (writeP ((Fl.getD k 0).toNat : Int) (fs.getD k zeroF)).2 = c → (∃ j, j < m ∧ (∀ k, k < j → (writeP ((Fl.getD k 0).toNat : Int) (fs.getD k zeroF)).2 = 0) ∧ (writeP ((Fl.getD j 0).toNat : Int) (fs.getD j zeroF)).2 ≠ 0 ∧
          (Ending.returned (.tuple #[.string ⟨#[]⟩, .agg #[.int .i64 (c : Int), .string (WD ++ blankS ++ (placeB k ++ blankS))]]) = .returned (.tuple #[.string ⟨#[]⟩, .agg #[.int .i64 ((writeP ((Fl.getD j 0).toNat : Int) (fs.getD j zeroF)).2 : Int), .string (WD ++ blankS ++ (placeB j ++ blankS))]])))) := fun c hc he => ⟨k, hlt, HOk.out, by rw [he]; exact hc, by rw [he]⟩
      have HNx : Hid ((writeP ((Fl.getD k 0).toNat : Int) (fs.getD k zeroF)).2 = 0 → ∀ j, j < k + 1 → (writeP ((Fl.getD j 0).toNat : Int) (fs.getD j zeroF)).2 = 0) := fun h j hj => by
        by_cases e : j = k
        · rw [e]; exact h
        · exact HOk.out j (by omega)
      have HMk : Hid ((b8 :: encK Fl fs (k + 1)).length ≤ 32768) := by
        have h1 := encK_mono Fl fs (show k + 1 ≤ m by omega)
        have h2 := HMax.out
        show _ ≤ _
        rw [List.length_cons]
        omega
      clear hpb hwb hok
      generalize hWB : WD ++ blankS = WB at *
      have HWB := Lib.hid hWB
      clear hWB
      generalize placeB k ++ blankS = PB at *
      generalize fs.getD k zeroF = x at *
      generalize Fl.getD k 0 = lt at *
      generalize hE2 : encK Fl fs (k + 1) = E2 at *
      have HE2 := Lib.hid hE2
      clear hE2
      generalize encK Fl fs k = E1 at *
      have HHw := Lib.hid hH
      have HEw := Lib.hid hE
      have HBw := Lib.hid hbel
      by_cases hkd : x.kind = lt
      · have hpw : putQ x = writeP (lt.toNat : Int) x := by rw [← hkd]; exact put_write (by rw [hkd]; exact hle)
        have HPut := Lib.hid (fun W (hb : Below wr.heap.size wr W) => put_any (hT2.below hb) hfo)
        rw [hpw] at HPut
        have q0 : ((x.kind.toNat : Int) != (lt.toNat : Int)) = false := by rw [hkd]; simp
        unfold wroteV fieldV at HPut
        by_cases h0 : (writeP (lt.toNat : Int) x).2 = 0
        · have HN := Lib.hid (HNx.out h0)
          rw [h0] at HPut
          generalize (writeP (lt.toNat : Int) x).1 = fm at *
          have hadd3 : ∀ W : World, (Op.stringOp .add (bs (b8 :: E1)) (bs fm)).run Tryz.prog W = .ok (.string (bs (b8 :: E2))) W := fun W => by
            rw [HEk.out]
            refine add_str (b8 :: E1) fm ?_ W
            have h1 := HMk.out
            rw [HEk.out] at h1
            rw [List.length_cons, List.length_append] at h1
            rw [List.length_cons]
            omega
          have hs2 : (bs (b8 :: E2)).size ≤ 32768 := by rw [bs_size]; exact HMk.out
          have q1 : decide ((32768 : Int) < (bs (b8 :: E2)).size) = false := decide_eq_false (by omega)
          have q2 : decide (((bs (b8 :: E2)).size : Int) > 32768) = false := decide_eq_false (by omega)
          obtain ⟨kd, xn, xs, xl⟩ := x
          simp only at hkd q0 y0 y1 y2 y3 HPut hcap4
          clear hkd hpw hT2 hfo hle h0 HPost HNx hs2 HOk HPl hadd2 hbel hH hE
          generalize hX1 : bs (b8 :: E1) = X1 at *
          generalize hX2 : bs (b8 :: E2) = X2 at *
          have HX2 := Lib.hid hX2
          clear hX1 hX2
          generalize bs xs = S at *
          generalize xl.length = xll at *
          generalize (kd.toNat : Int) = kz at *
          generalize (lt.toNat : Int) = lz at *
          generalize bs fm = FM at *
          go_wp2_with fail
          go_region
          have y0d : wr.drew.cell? _ = _ := y0
          have y1d : wr.drew.cell? _ = _ := y1
          have y2d : wr.drew.cell? _ = _ := y2
          have y3d : wr.drew.cell? _ = _ := y3
          have m1d : wr.drew.cell? _ = _ := m1
          go_wp2_with (first
            | (go_at_call 25; with_reducible refine (HPut.out _ (Below.refl _ _).drew).mono ?_; rintro e w6 ⟨rfl, b6⟩)
            | fail)
          have b7 : Below wr.heap.size wr w6 := (Below.refl wr.heap.size wr).drew.trans b6
          go_roundw
          case rel => exact ⟨k + 1, by omega, by rw [HE2.out, HX2.out], by go_num, HN.out, HBw.out.trans (b7.mono HBw.out.size), HEw.out.moves (Moves.ofBelow (S := nobody) b7) (fun h => h), HHw.out.moves (Moves.ofBelow (S := nobody) b7) (fun h => h)⟩
          case measure => simp [intOf]; omega
        · have HNz := Lib.hid h0
          have HPo := Lib.hid (HPost.out _ h0 rfl)
          have q3 : (((writeP (lt.toNat : Int) x).2 : Int) != 0) = true := by rw [bne_iff_ne]; omega
          clear HPost HNx HMk h0
          generalize (writeP (lt.toNat : Int) x).1 = fm at *
          generalize (writeP (lt.toNat : Int) x).2 = ec at *
          obtain ⟨kd, xn, xs, xl⟩ := x
          simp only at hkd q0 y0 y1 y2 y3 HPut hcap4
          clear hkd hpw hT2 hfo hle HOk hbel hH hE
          generalize bs (b8 :: E1) = X1 at *
          generalize bs xs = S at *
          generalize xl.length = xll at *
          generalize (kd.toNat : Int) = kz at *
          generalize (lt.toNat : Int) = lz at *
          generalize bs fm = FM at *
          go_wp2_with fail
          go_region
          have y0d : wr.drew.cell? _ = _ := y0
          have y1d : wr.drew.cell? _ = _ := y1
          have y2d : wr.drew.cell? _ = _ := y2
          have y3d : wr.drew.cell? _ = _ := y3
          have m1d : wr.drew.cell? _ = _ := m1
          go_wp2_with (first
            | (go_at_call 25; with_reducible refine (HPut.out _ (Below.refl _ _).drew).mono ?_; rintro e w6 ⟨rfl, b6⟩
               have b7 : Below wr.heap.size wr w6 := (Below.refl wr.heap.size wr).drew.trans b6)
            | (go_at_call 24; refine (HPl.out _).mono ?_; rintro e' w8 ⟨rfl, b8'⟩
               have b9 : Below wr.heap.size wr w8 := b7.trans (b8'.mono b7.size)
               have hB8 := HBw.out.trans (b9.mono HBw.out.size)
               have hE8 := HEw.out.moves (Moves.ofBelow (S := nobody) b9) (fun h => h)
               have d0 := hE8.cell 0; have d1 := hE8.cell 1; have f0 := hE8.frozen 0; have f1 := hE8.frozen 1)
            | fail)
          have hF := Holds.set (Holds.set hE8 0 (.int .i64 ec)) 1 (.string (WB ++ PB))
          have mf : Moves (fun i => i = w.heap.size + 1) w8 _ := ((Moves.refl (fun i => i = w.heap.size + 1) w8).setCell (p := ⟨w.heap.size + 1, 0, none⟩) (.inl rfl) (.int .i64 ec)).setCell (p := ⟨w.heap.size + 1, 1, none⟩) (.inl rfl) (.string (WB ++ PB))
          try simp only [Exit.inBlock, Exit.then]
          refine bodyPost_ret (rdResults2 (p := 3) (u := 2) rfl _ _ (w.heap.size + 1) _ _ (0, 0) _ rfl hF Tryz.underlying33 rfl (by kernel_rfl)) rfl ⟨hB8.trans (mf.below hB8.size fun i hi => by omega), .inl (by obtain ⟨j, a1, a2, a3, a4⟩ := HPo.out; exact ⟨j, a1, a2, a3, by rw [HWB.out]; exact a4⟩)⟩
      · have hkn : (x.kind.toNat : Int) ≠ (lt.toNat : Int) := fun h => hkd (UInt8.toNat_inj.1 (by omega))
        have q0 : ((x.kind.toNat : Int) != (lt.toNat : Int)) = true := by rw [bne_iff_ne]; exact hkn
        have HPo := Lib.hid (HPost.out 3 (by decide) (by unfold writeP; rw [if_pos (.inl hkn)]))
        clear HPost HNx HMk hkn HEk
        obtain ⟨kd, xn, xs, xl⟩ := x
        simp only at hkd q0 y0 y1 y2 y3 hcap4
        clear hkd hT2 hfo hle HOk hbel hH hE
        generalize bs (b8 :: E1) = X1 at *
        generalize bs xs = S at *
        generalize xl.length = xll at *
        generalize (kd.toNat : Int) = kz at *
        generalize (lt.toNat : Int) = lz at *
        go_wp2_with fail
        go_region
        go_wp2_with (first
          | (go_at_call 24; refine (HPl.out _).mono ?_; rintro e' w8 ⟨rfl, b8'⟩
             have b9 : Below wr.heap.size wr w8 := (Below.refl wr.heap.size wr).drew.trans b8'
             have hB8 := HBw.out.trans (b9.mono HBw.out.size)
             have hE8 := HEw.out.moves (Moves.ofBelow (S := nobody) b9) (fun h => h)
             have d0 := hE8.cell 0; have d1 := hE8.cell 1; have f0 := hE8.frozen 0; have f1 := hE8.frozen 1)
          | fail)
        have hF := Holds.set (Holds.set hE8 0 (.int .i64 3)) 1 (.string (WB ++ PB))
        have mf : Moves (fun i => i = w.heap.size + 1) w8 _ := ((Moves.refl (fun i => i = w.heap.size + 1) w8).setCell (p := ⟨w.heap.size + 1, 0, none⟩) (.inl rfl) (.int .i64 3)).setCell (p := ⟨w.heap.size + 1, 1, none⟩) (.inl rfl) (.string (WB ++ PB))
        try simp only [Exit.inBlock, Exit.then]
        refine bodyPost_ret (rdResults2 (p := 3) (u := 2) rfl _ _ (w.heap.size + 1) _ _ (0, 0) _ rfl hF Tryz.underlying33 rfl (by kernel_rfl)) rfl ⟨hB8.trans (mf.below hB8.size fun i hi => by omega), .inl (by obtain ⟨j, a1, a2, a3, a4⟩ := HPo.out; exact ⟨j, a1, a2, a3, by rw [HWB.out]; exact a4⟩)⟩
    · have hkm : k = m := by omega
      have HPo : Hid (∀ k, k < m → (writeP ((Fl.getD k 0).toNat : Int) (fs.getD k zeroF)).2 = 0) := fun j hj => hok j (by omega)
      have HBw := Lib.hid hbel
      have HEw := Lib.hid hE
      have HK := Lib.hid hkm
      clear hok HOk hbel hH hE hkm
      go_wp2_with fail
      have hF := Holds.set (Holds.set HEw.out 0 (.int .i64 0)) 1 (.string ⟨#[]⟩)
      have mf : Moves (fun i => i = w.heap.size + 1) wr _ := ((Moves.refl (fun i => i = w.heap.size + 1) wr).setCell (p := ⟨w.heap.size + 1, 0, none⟩) (.inl rfl) (.int .i64 0)).setCell (p := ⟨w.heap.size + 1, 1, none⟩) (.inl rfl) (.string ⟨#[]⟩)
      try simp only [Exit.inBlock, Exit.then]
      refine bodyPost_ret (rdResults2 (p := 3) (u := 2) rfl _ _ (w.heap.size + 1) _ _ (0, 0) _ rfl hF Tryz.underlying33 rfl (by kernel_rfl)) rfl ⟨HBw.out.trans (mf.below HBw.out.size fun i hi => by omega), .inr ⟨HPo.out, by rw [← HK.out]; rfl⟩⟩
end Go.Proofs.YtpiklkbjfpfejaaGreatDoor

namespace Go.Proofs.YtpiklkbjfpfejaaGreatDoor
open Go.RowKit

set_option maxHeartbeats 1000000 in
set_option maxRecDepth 100000 in
theorem encode_none {w : World} {v : Value} {fs : List FieldR} (hv : FieldsAt w v fs) (num : Int) (hfit : (fitP (formsP num) fs.length).2 = false) :
    Calls Tryz.prog 8 #[msgV num v] w fun e w' => ∃ t u, e = .returned (.tuple #[.string ⟨#[]⟩, .iface t u]) ∧ ErrAt w' (.iface t u) [messageS] (some 6) ∧ Below w.heap.size w w' := by
  have HFit := Lib.hid (fun W => fit_any W num (fs.length : Int))
  rw [hfit] at HFit
  have HO : Hid (∀ W, Calls Tryz.prog 15 #[.string messageS, .int .i64 6] W fun r w' => ∃ t u, r = .returned (.iface t u) ∧ ErrAt w' (.iface t u) [messageS] (some 6) ∧ Below W.heap.size W w') := fun W =>
    (fOf_any messageS 6 (by decide) W).mono fun r w' ⟨v', h1, h2, h3, h4⟩ => by
      cases h2
      exact ⟨_, _, h1, .fault ‹_› ‹_› ‹_› ‹_›, h4⟩
  obtain ⟨ao, cap, rfl, hcap, hlen, _⟩ := hv
  have HBA := Lib.hid ((Below.refl w.heap.size w).alloc (Nat.le_refl _) (.cells #[.int .i64 num, .slice ao fs.length cap] 24))
  have HH := Lib.hid (Holds.new w 24 #[.int .i64 num, .slice ao fs.length cap])
  unfold msgV messageS at *
  generalize (fitP (formsP num) (fs.length : Int)).1 = F at *
  generalize fs.length = m at *
  go_enter Tryz.func8, Tryz.ntmps8
  go_wp2_with (first
    | (go_at_call 14; with_reducible refine (HFit.out _).mono ?_; rintro e w1 ⟨rfl, b1⟩; have hb1 := HBA.out.trans (b1.mono HBA.out.size))
    | (go_at_call 15; with_reducible refine (HO.out _).mono ?_; rintro e w7 ⟨t, u, rfl, he, b7⟩)
    | fail)
  go_ret2
  exact ⟨t, u, rfl, he, hb1.trans (b7.mono hb1.size)⟩
set_option maxHeartbeats 1000000 in
set_option maxRecDepth 100000 in
theorem rencode_none {w : World} {v : Value} {fs : List FieldR} (hv : FieldsAt w v fs) (num : Int) (hfit : (fitP (formsP num) fs.length).2 = false) :
    Calls Tryz.prog 9 #[msgV num v] w fun e w' => e = .returned (.tuple #[.string ⟨#[]⟩, .agg #[.int .i64 6, .string ⟨#[109, 101, 115, 115, 97, 103, 101, 32]⟩]]) ∧ Below w.heap.size w w' := by
  have HFit := Lib.hid (fun W => fit6_any W num (fs.length : Int))
  rw [hfit] at HFit
  obtain ⟨ao, cap, rfl, hcap, hlen, _⟩ := hv
  unfold msgV
  have hE0 := Holds.new (w.alloc (.cells #[.int .i64 num, .slice ao fs.length cap] 24)) 33 #[.int .i64 0, .string ⟨#[]⟩]
  rw [World.size_alloc] at hE0
  have hH0 := (Holds.new w 24 #[.int .i64 num, .slice ao fs.length cap]).moves ((Moves.refl nobody _).alloc (.cells #[.int .i64 0, .string ⟨#[]⟩] 33)) (fun h => h)
  have hB0 : Below w.heap.size w ((w.alloc (.cells #[.int .i64 num, .slice ao fs.length cap] 24)).alloc (.cells #[.int .i64 0, .string ⟨#[]⟩] 33)) := ((Below.refl _ w).alloc (Nat.le_refl _) _).alloc (by simp) _
  have HH0 := Lib.hid hH0
  have HE0 := Lib.hid hE0
  have HB0 := Lib.hid hB0
  clear hE0 hH0 hB0
  generalize (fitP (formsP num) (fs.length : Int)).1 = F at *
  generalize fs.length = m at *
  go_enter Tryz.func9, Tryz.ntmps9
  generalize hW0 : (w.alloc (.cells #[.int .i64 num, .slice ao m cap] 24)).alloc (.cells #[.int .i64 0, .string ⟨#[]⟩] 33) = W0 at *
  have c0 := HH0.out.cell 0
  have c1 := HH0.out.cell 1
  go_wp2_with (first
    | (go_at_call 21; with_reducible refine (HFit.out _).mono ?_; rintro e w1 ⟨rfl, b1⟩
       have hB1 := HB0.out.trans (b1.mono HB0.out.size)
       have hE1 := HE0.out.moves (Moves.ofBelow (S := nobody) b1) (fun h => h)
       have d0 := hE1.cell 0; have d1 := hE1.cell 1; have f0 := hE1.frozen 0; have f1 := hE1.frozen 1)
    | fail)
  have hF := Holds.set (Holds.set hE1 0 (.int .i64 6)) 1 (.string ⟨#[109, 101, 115, 115, 97, 103, 101, 32]⟩)
  have mf : Moves (fun i => i = w.heap.size + 1) w1 _ := ((Moves.refl (fun i => i = w.heap.size + 1) w1).setCell (p := ⟨w.heap.size + 1, 0, none⟩) (.inl rfl) (.int .i64 6)).setCell (p := ⟨w.heap.size + 1, 1, none⟩) (.inl rfl) (.string ⟨#[109, 101, 115, 115, 97, 103, 101, 32]⟩)
  try simp only [Exit.inBlock, Exit.then]
  refine bodyPost_ret (rdResults2 (p := 3) (u := 2) rfl _ _ (w.heap.size + 1) _ _ (0, 0) _ rfl hF Tryz.underlying33 rfl (by kernel_rfl)) rfl ⟨rfl, hB1.trans (mf.below hB1.size fun i hi => by omega)⟩
end Go.Proofs.YtpiklkbjfpfejaaGreatDoor
