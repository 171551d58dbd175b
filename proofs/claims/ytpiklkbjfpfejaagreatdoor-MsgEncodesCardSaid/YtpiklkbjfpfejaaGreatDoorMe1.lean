/- Encode where nothing is wrong. -/
import Derived.Test.YtpiklkbjfpfejaaGreatDoorMg1
import Derived.Test.YtpiklkbjfpfejaaGreatDoorStrs
import Derived.Deep.Cut
import Derived.Test.YtpiklkbjfpfejaaGreatDoorFit
import Derived.Test.YtpiklkbjfpfejaaGreatDoorSWord
import Derived.Laws.RangeString
import Derived.Lib.OthersKept
namespace Go.Proofs.YtpiklkbjfpfejaaGreatDoor
open Go.RowKit

/-- What is written of the first k fields, by the letters of a format. -/
def encK (Fl : List UInt8) (fs : List FieldR) : Nat → List UInt8
  | 0 => []
  | k + 1 => encK Fl fs k ++ (writeP ((Fl.getD k 0).toNat : Int) (fs.getD k zeroF)).1
theorem encK_mono (Fl : List UInt8) (fs : List FieldR) {k n : Nat} (h : k ≤ n) : (encK Fl fs k).length ≤ (encK Fl fs n).length := by
  induction n with
  | zero => have : k = 0 := by omega
            subst this; exact Nat.le_refl _
  | succ n ih =>
    by_cases hk : k = n + 1
    · subst hk; exact Nat.le_refl _
    · have := ih (by omega)
      show _ ≤ (encK Fl fs n ++ _).length
      rw [List.length_append]
      omega
/-- A world's iterator's place. -/
def itPos (w : World) (k : Nat) : Nat := match w.heap[k]? with
  | some (.stringIter _ p) => p
  | _ => 0
def nextB (num : Int) : UInt8 := UInt8.ofNat (num % 256).toNat

theorem iter_moves (w : World) (k : Nat) (s : ByteArray) (p : Nat) : Moves (fun i => i = k) w (w.iterAt k s p) :=
  ⟨rfl, rfl, rfl, by rw [Lib.iterAt_size]; exact Nat.le_refl _, fun i _ hi => Lib.iterAt_other w k i s p hi⟩
theorem OwnB.iter {w : World} {base k p : Nat} {v : Value} {l : List UInt8} {s : ByteArray} (h : OwnB w base v l) (hk : w.heap[k]? = some (.stringIter s p)) (p' : Nat) : OwnB (w.iterAt k s p') base v l :=
  h.moves (iter_moves w k s p') fun g hg e => by
    obtain ⟨g', cap, cur, m, rfl, _, hgg, _⟩ := h
    simp only [Value.ownBlock, Option.some.injEq] at hg
    subst hg
    subst e
    rw [hk] at hgg
    cases hgg
theorem OwnB.ne_iter {w : World} {base g n c k p : Nat} {l : List UInt8} {s : ByteArray} (h : OwnB w base (.slice (some ⟨g, 0, none⟩) n c) l) (hk : w.heap[k]? = some (.stringIter s p)) : k ≠ g := by
  rintro rfl
  obtain ⟨g', cap, cur, m, e, _, hgg, _⟩ := h
  injection e with e1
  injection e1 with e1
  injection e1 with e1
  subst e1
  rw [hk] at hgg
  cases hgg
theorem OwnB.ne_holds {w : World} {base g n c k : Nat} {l : List UInt8} {t : TypeId} {cs : Array Value} (h : OwnB w base (.slice (some ⟨g, 0, none⟩) n c) l) (hk : Holds w k t cs) (ht : t ≠ 5) : k ≠ g := by
  rintro rfl
  obtain ⟨g', cap, cur, m, e, _, hgg, _⟩ := h
  injection e with e1
  injection e1 with e1
  injection e1 with e1
  subst e1
  unfold Holds at hk
  rw [hk] at hgg
  injection hgg with hgg
  injection hgg with _ h2
  exact ht h2
set_option maxHeartbeats 2000000 in
set_option maxRecDepth 100000 in
theorem encode_ok {w : World} {v : Value} {fs : List FieldR} (hv : FieldsAt w v fs) (hT : TabAt w) (num : Int) (Fl : List UInt8) (hfit : fitP (formsP num) fs.length = (bs Fl, true)) (hsz : Fl.length = fs.length) (hasc : ∀ c ∈ Fl, c.toNat < 128)
    (hfo : ∀ x ∈ fs, FieldOk x) (hok : ∀ k, k < fs.length → (writeP ((Fl.getD k 0).toNat : Int) (fs.getD k zeroF)).2 = 0) (hmax : 1 + (encK Fl fs fs.length).length ≤ 32768) :
    Calls Tryz.prog 8 #[msgV num v] w fun e w' => e = .returned (.tuple #[.string (bs (nextB num :: encK Fl fs fs.length)), .nilIface]) ∧ Below w.heap.size w w' := by
  have HFit := Lib.hid (fun W => fit_any W num (fs.length : Int))
  have HWord : Hid (∀ W, Below w.heap.size w W → Calls Tryz.prog 16 #[.int .i64 num] W fun e w' => e = .returned (.string (wordP num)) ∧ Below W.heap.size W w') := fun W hb => word_any (hT.below hb) num
  obtain ⟨ao, cap, rfl, hcap, hlen, hin, hf⟩ := hv
  rw [hfit] at HFit
  unfold msgV
  have hBA : Below w.heap.size w (w.alloc (.cells #[.int .i64 num, .slice ao fs.length cap] 24)) := (Below.refl w.heap.size w).alloc (Nat.le_refl _) _
  have HBA := Lib.hid hBA
  simp only at HFit
  have HH := Lib.hid (Holds.new w 24 #[.int .i64 num, .slice ao fs.length cap])
  have hb8e : ((nextB num).toNat : Int) = num % 256 := by unfold nextB; rw [UInt8.toNat_ofNat']; omega
  have HBy : Hid (∀ W, Calls Tryz.prog 17 #[.int .u8 (num % 256)] W fun e w' => e = .returned (.string (bs [nextB num])) ∧ Below W.heap.size W w') := fun W => by rw [← hb8e]; exact wByte_any _ W
  have HC8 := Lib.hid (fun W => conv_own W [nextB num] (by simp))
  have HFl : Hid (∀ W, Below w.heap.size w W → ∀ k, k < fs.length → ∃ b off, ao = some ⟨b, off, none⟩ ∧ FieldAt W b off k (fs.getD k zeroF)) := fun W hb k hk => by
    obtain ⟨b, off, rfl, hbl, h⟩ := hf (by rintro rfl; simp at hk)
    exact ⟨b, off, rfl, (h k _ (by rw [List.getD_eq_getElem?_getD, List.getElem?_eq_getElem hk]; rfl)).below hbl hb⟩
  have HFo : Hid (∀ k, k < fs.length → FieldOk (fs.getD k zeroF)) := fun k hk => hfo _ (by rw [List.getD_eq_getElem?_getD, List.getElem?_eq_getElem hk]; exact List.getElem_mem hk)
  have HNx : Hid (∀ (W : World) (k it : Nat), k < fs.length → W.heap[it]? = some (.stringIter (bs Fl) k) → ∀ ty, (Instr.next (.pointer (some ⟨it, 0, none⟩)) true ty).run Tryz.prog W = .ok (.tuple #[.bool true, .int .i64 k, .int .i32 ((Fl.getD k 0).toNat : Int)]) (W.iterAt it (bs Fl) (k + 1))) := fun W k it hk hi ty => by
    have hkF : k < Fl.length := by omega
    have hg : ((bs Fl)[k]'(by rw [bs_size]; exact hkF)) = Fl[k] := by simp [bs, ByteArray.getElem_eq_getElem_data]
    have := Lib.run_next_ascii_at (P := Tryz.prog) W it (bs Fl) k ty hi (by rw [bs_size]; exact hkF) (by rw [hg]; exact hasc _ (List.getElem_mem hkF))
    rw [hg] at this
    rw [this]
    simp [List.getD, hkF]
  have HNe : Hid (∀ (W : World) (it : Nat), W.heap[it]? = some (.stringIter (bs Fl) fs.length) → ∀ ty, (Instr.next (.pointer (some ⟨it, 0, none⟩)) true ty).run Tryz.prog W = .ok (.tuple #[.bool false]) W) := fun W it hi ty =>
    Lib.run_next_end_at (P := Tryz.prog) W it (bs Fl) fs.length ty hi (by rw [bs_size]; omega)
  have HOk := Lib.hid hok
  have HMax := Lib.hid hmax
  generalize wordP num = WD at *
  generalize nextB num = b8 at *
  clear hin hf hBA hb8e hfo hok hmax hsz hasc hfit
  generalize bs Fl = F at *
  have HM : Hid (∃ m, m = fs.length) := ⟨_, rfl⟩
  obtain ⟨m, hm⟩ := HM.out
  have HMe := Lib.hid hm
  rw [← hm] at HFit HBA HH HFl HFo HNx HNe HOk HMax hcap hlen ⊢
  clear hm HM
  go_enter Tryz.func8, Tryz.ntmps8
  go_wp2_with (first
    | (go_at_call 14; with_reducible refine (HFit.out _).mono ?_; rintro e w1 ⟨rfl, b1⟩; have hb1 := HBA.out.trans (b1.mono HBA.out.size); have hH1 := HH.out.moves (Moves.ofBelow (S := nobody) b1) (fun h => h); have c0 := hH1.cell 0; have c1 := hH1.cell 1)
    | (go_at_call 16; with_reducible refine (HWord.out _ hb1).mono ?_; rintro e w2 ⟨rfl, b2⟩; have hb2 := hb1.trans (b2.mono hb1.size); have hH2 := hH1.moves (Moves.ofBelow (S := nobody) b2) (fun h => h); have d0 := hH2.cell 0; have d1 := hH2.cell 1)
    | (go_at_call 17; with_reducible refine (HBy.out _).mono ?_; rintro e w3 ⟨rfl, b3⟩; have hb3 := hb2.trans (b3.mono hb2.size); have hH3 := hH2.moves (Moves.ofBelow (S := nobody) b3) (fun h => h); obtain ⟨c4, W4, hcv, hown, bW, hsz⟩ := HC8.out w3))
  have hH4 := hH3.moves (Moves.ofBelow (S := nobody) bW) (fun h => h)
  have hb4 := hb3.trans (bW.mono hb3.size)
  have hgw : w.heap.size ≤ w3.heap.size := hb3.size
  have hit5 : (W4.iter F 0).heap[w3.heap.size + 1]? = some (.stringIter F 0) := by rw [← hsz]; exact World.iter_heap W4 F 0
  have hb5 : Below w.heap.size w (W4.iter F 0) := hb4.alloc hb4.size _
  have hown5 : OwnB (W4.iter F 0) w.heap.size (.slice (some ⟨w3.heap.size, 0, none⟩) [b8].length c4) [b8] := (hown.below ((Below.refl W4.heap.size W4).alloc (Nat.le_refl _) _)).lower hgw
  have hH5 : Holds (W4.iter F 0) w.heap.size 24 #[.int .i64 num, .slice ao m cap] := hH4.moves ((Moves.refl nobody W4).alloc _) (fun h => h)
  have HI5 := Lib.hid hit5
  have HB5 := Lib.hid hb5
  have HO5 := Lib.hid hown5
  have HH5 := Lib.hid hH5
  have hitw : w.heap.size < w3.heap.size + 1 := by omega
  clear hit5 hb5 hown5 hH5 hb4 hH4 bW hown hcv b3 hb3 hH3 b2 hb2 hH2 b1 hb1 hH1 c0 c1 d0 d1 hsz hgw
  generalize w3.heap.size = G at *
  generalize W4.iter F 0 = W5 at *
  go_loopw [7] (fun p wr => ∃ k g c, k ≤ m ∧ p = .slice (some ⟨g, 0, none⟩) (b8 :: encK Fl fs k).length c ∧ OwnB wr w.heap.size p (b8 :: encK Fl fs k) ∧ wr.heap[G + 1]? = some (.stringIter F k) ∧ Holds wr w.heap.size 24 #[.int .i64 num, .slice ao m cap] ∧ Below w.heap.size w wr) (fun _ wr => m - itPos wr (G + 1))
  case atStart => exact ⟨0, G, c4, Nat.zero_le _, rfl, HO5.out, HI5.out, HH5.out, HB5.out⟩
  case round =>
    obtain ⟨k, g, c, hk, rfl, how, hit, hH, hbel⟩ := hrel
    by_cases hlt : k < m
    · have hnx := HNx.out wr k (G + 1) hlt hit
      have hV : Below w.heap.size w (wr.iterAt (G + 1) F (k + 1)) := Lib.below_iterAt hbel (by omega) F (k + 1)
      have HOw := Lib.hid (how.iter hit (k + 1))
      have HHv := Lib.hid (hH.moves (iter_moves wr (G + 1) F (k + 1)) (by omega))
      have HIt := Lib.hid (Lib.iterAt_heap wr (G + 1) F k (k + 1) hit)
      have hn1 : (wr.iterAt (G + 1) F (k + 1)).cell? ⟨w.heap.size, 1, none⟩ = some (.slice ao m cap) := HHv.out.cell 1
      obtain ⟨b, off, rfl, y0, y1, y2, a2, cap2, y3, hcap2, hT2⟩ := HFl.out _ hV k hlt
      have hw0 := HOk.out k hlt
      have HWr := Lib.hid (fun W (hb : Below (wr.iterAt (G + 1) F (k + 1)).heap.size (wr.iterAt (G + 1) F (k + 1)) W) => write_any ((Fl.getD k 0).toNat : Int) (hT2.below hb) (fun ao' cap' e => by injection e with _ _ e; omega) (HFo.out k hlt))
      have HEk : Hid (encK Fl fs (k + 1) = encK Fl fs k ++ (writeP ((Fl.getD k 0).toNat : Int) (fs.getD k zeroF)).1) := rfl
      have HLe : Hid ((b8 :: encK Fl fs k).length + (writeP ((Fl.getD k 0).toNat : Int) (fs.getD k zeroF)).1.length ≤ 32768) := by
        have h1 := encK_mono Fl fs (show k + 1 ≤ m by omega)
        have h2 := HMax.out
        rw [HEk.out, List.length_append] at h1
        show _ ≤ _
        rw [List.length_cons]
        omega
      unfold wroteV fieldV at HWr
      rw [hw0] at HWr
      generalize fs.getD k zeroF = x at *
      generalize (writeP ((Fl.getD k 0).toNat : Int) x).1 = fm at *
      have HVb := Lib.hid hV
      have hIp : itPos wr (G + 1) = k := by unfold itPos; rw [hit]
      have HIp := Lib.hid hIp
      have hcons : (b8 :: encK Fl fs k) ++ fm = b8 :: encK Fl fs (k + 1) := by rw [HEk.out]; rfl
      have HCons := Lib.hid hcons
      have q1 : ¬ ((b8 :: encK Fl fs k).length : Int) + (fm.length : Int) > 32768 := by have := HLe.out; omega
      have hfml : (bs fm).size = fm.length := bs_size fm
      have hwrap : IntKind.i64.wrap (((b8 :: encK Fl fs k).length : Int) + (fm.length : Int)) = ((b8 :: encK Fl fs k).length : Int) + (fm.length : Int) := IntWalk.i64_in _ (by have := HLe.out; omega)
      obtain ⟨kd, xn, xs, xl⟩ := x
      clear hV hw0 hT2 hbel how hH hit hIp hcons
      generalize (Fl.getD k 0).toNat = lt at *
      generalize b8 :: encK Fl fs k = Q at *
      generalize bs xs = S at *
      generalize xl.length = xll at *
      go_wp2_with (first
        | (go_at_call 18
           with_reducible refine (HWr.out _ (Below.refl _ _)).mono ?_
           rintro e w6 ⟨rfl, b6⟩
           have hown6 := HOw.out.below b6
           have hit6 : w6.heap[G + 1]? = some (.stringIter F (k + 1)) := (b6.block (G + 1) (Array.getElem?_eq_some_iff.1 HIt.out).1).trans HIt.out
           have hH6 := HHv.out.moves (Moves.ofBelow (S := nobody) b6) (fun h => h)
           have hb6 := HVb.out.trans (b6.mono HVb.out.size))
        | (at_builtin
           refine wpList_appB (v := .slice (some ⟨g, 0, none⟩) Q.length c) rfl (.tmp 64) (.tmp 65) rfl rfl rfl hown6 fm rfl ?b1 hb6.size ?_
           case b1 => exact Nat.le_trans HLe.out (by omega)
           intro g4 c4' w7 how7 hg7))
      have m7 : Moves (fun i => i = g) w6 w7 := (Moves.refl (fun i => i = g) w6).grown hg7 fun j hj => .inl (by simpa [Value.ownBlock] using hj.symm)
      have hgb : w.heap.size ≤ g := by
        obtain ⟨g', _, e, h, _⟩ := hown6.block
        injection e with e
        injection e with e
        injection e with e
        omega
      have hit7 : w7.heap[G + 1]? = some (.stringIter F (k + 1)) := (m7.block (G + 1) (Array.getElem?_eq_some_iff.1 hit6).1 (hown6.ne_iter hit6)).trans hit6
      have hH7 := hH6.moves m7 (hown6.ne_holds hH6 (by decide))
      have hb7 := hb6.trans (m7.below hb6.size fun i hi => by omega)
      have hlen7 : Q.length + fm.length = (b8 :: encK Fl fs (k + 1)).length := by rw [← HCons.out, List.length_append]
      rw [HCons.out] at how7
      go_roundw
      case rel => exact ⟨k + 1, g4, c4', by omega, by rw [hlen7], by rw [hlen7]; exact how7, hit7, hH7, hb7⟩
      case measure =>
        have h1 := HIp.out
        have h2 : itPos w7 (G + 1) = k + 1 := by unfold itPos; rw [hit7]
        rw [h1, h2]
        omega
    · have hkm : k = m := by omega
      subst hkm
      have hnx := HNe.out wr (G + 1) hit
      have hst := string_own how
      have HBe := Lib.hid hbel
      clear how hH hbel hlt
      have HMe2 := HMe.out
      generalize hQ : b8 :: encK Fl fs k = Q at *
      have HQ := Lib.hid hQ
      clear hQ
      go_wp2_with fail
      go_ret2
      exact ⟨by rw [HQ.out]; rfl, HBe.out⟩
end Go.Proofs.YtpiklkbjfpfejaaGreatDoor
