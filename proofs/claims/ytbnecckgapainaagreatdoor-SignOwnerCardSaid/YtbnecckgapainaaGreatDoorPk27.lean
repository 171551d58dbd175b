/- Part 27 of what the statement wants. -/
import Derived.BigQuiet
import Derived.Deep.RegionHeld3
import Derived.Test.YtbnecckgapainaaGreatDoorPk14
import Derived.Test.YtbnecckgapainaaGreatDoorPk18
import Derived.Test.YtbnecckgapainaaGreatDoorPk25
import Derived.Test.YtbnecckgapainaaGreatDoorPk26
namespace Go.Proofs.YtbnecckgapainaaGreatDoor
open Go.RowKit

/-- What is wrong with a host's key and signature: 0 nothing, 1 the key, 2 the signature. -/
def hostC (g : List UInt8) (who : Int) (tk ts th : List UInt8) : Nat := if ownerP tk = (who, true) then (if ts ≠ [] ∧ ts = hostL g who th then 0 else 2) else 1
def hostS : ByteArray := ⟨#[104, 111, 115, 116]⟩
def keyS : ByteArray := ⟨#[107, 101, 121]⟩
def sigS : ByteArray := ⟨#[115, 105, 103, 110, 97, 116, 117, 114, 101]⟩
/-- The error that a check returns. -/
def ToldAt (w : World) (c : Nat) (x : ByteArray) (e : Int) (v : Value) : Prop :=
  (c = 0 ∧ v = .nilIface) ∨ (c = 1 ∧ ∃ b, v = .iface 166 (.pointer (some ⟨b, 0, none⟩)) ∧ FaultK w b x keyS e) ∨ (c = 2 ∧ ∃ b, v = .iface 166 (.pointer (some ⟨b, 0, none⟩)) ∧ FaultK w b x sigS e)
theorem ToldAt.kept {w w' : World} {c : Nat} {x : ByteArray} {e : Int} {v : Value} (h : ToldAt w c x e v) (k : Kept w w') : ToldAt w' c x e v := by
  rcases h with h | ⟨h, b, h1, h2⟩ | ⟨h, b, h1, h2⟩
  · exact .inl h
  · exact .inr (.inl ⟨h, b, h1, h2.kept k⟩)
  · exact .inr (.inr ⟨h, b, h1, h2.kept k⟩)
section
variable {B A n : Nat} {w0 W : World} {P : List (Int × List UInt8)}
set_option maxHeartbeats 2000000 in
set_option maxRecDepth 100000 in
theorem snCheckHost_any (h : Ta B w0 A P n W) (hn : n ≤ 800) (g : List UInt8) (hg : g.length ≤ 10000) (who : Int) {kk ks kh : Int} {tk ts th : List UInt8} (mk : (kk, tk) ∈ P) (ms : (ks, ts) ∈ P) (mh : (kh, th) ∈ P) :
    Calls Tryz.prog 30 #[.pointer (some ⟨A, 0, none⟩), .string (bs g), .int .i64 who, .int .i64 kk, .int .i64 ks, .int .i64 kh] W fun e w' => ∃ v, e = .returned v ∧ ToldAt w' (hostC g who tk ts th) hostS 9 v ∧ Ta B w0 A P (n + 2) w' ∧ Kept W w' := by
  have hO := snOwner_any h mk
  have HW1 : Hid (∀ W1 : World, Calls Tryz.prog 68 #[.string ⟨#[104, 111, 115, 116]⟩, .string ⟨#[107, 101, 121]⟩, .int .i64 9] W1 fun r w' => ∃ b, r = .returned (.iface 166 (.pointer (some ⟨b, 0, none⟩))) ∧ FaultK w' b hostS keyS 9 ∧ Below W1.heap.size W1 w') := fun W1 => snWrong_any _ _ 9 (by decide) W1
  have HW2 : Hid (∀ W1 : World, Calls Tryz.prog 68 #[.string ⟨#[104, 111, 115, 116]⟩, .string ⟨#[115, 105, 103, 110, 97, 116, 117, 114, 101]⟩, .int .i64 9] W1 fun r w' => ∃ b, r = .returned (.iface 166 (.pointer (some ⟨b, 0, none⟩))) ∧ FaultK w' b hostS sigS 9 ∧ Below W1.heap.size W1 w') := fun W1 => snWrong_any _ _ 9 (by decide) W1
  have HM : Hid (∀ W1, Ta B w0 A P n W1 → Ta B w0 A P (n + 2) W1) := fun W1 h1 => h1.mono (by omega) (fun p hp => hp)
  have HT0 := Lib.hid h
  by_cases h1 : ownerP tk = (who, true)
  · have hc : hostC g who tk ts th = if ts ≠ [] ∧ ts = hostL g who th then 0 else 2 := if_pos h1
    have qw : (who != who) = false := by simp
    rw [h1] at hO
    have HO := Lib.hid hO
    have hH : ∀ W1, Below W.heap.size W W1 → Calls Tryz.prog 59 #[.pointer (some ⟨A, 0, none⟩), .int .i64 ks] W1 fun e w' => e = .returned (.bool (!ts.isEmpty)) ∧ W1 = w' := fun W1 hb => snHas_any (h.below hb) ms
    by_cases h2 : ts = []
    · rw [hc, if_neg (fun hh => hh.1 h2)]
      have e0 : (!ts.isEmpty) = false := by rw [h2]; rfl
      rw [e0] at hH
      have HH := Lib.hid hH
      clear h hO hc h1 hH h2 e0
      generalize bs g = G at *
      go_enter Tryz.func30, Tryz.ntmps30
      go_wp2_with (first
        | (go_at_call 40; (with_reducible refine HO.out.mono ?_); rintro e w1 ⟨rfl, b1⟩)
        | (go_at_call 59; (with_reducible refine (HH.out _ b1).mono ?_); rintro e w2 ⟨rfl, hw⟩; subst hw)
        | (go_at_call 68; (with_reducible refine (HW2.out _).mono ?_); rintro e w3 ⟨b, rfl, f3, b3⟩)
        | fail)
      go_ret
      exact ⟨_, rfl, .inr (.inr ⟨rfl, b, rfl, f3⟩), HM.out _ ((HT0.out.below b1).below b3), (Kept.ofBelow b1).trans (Kept.ofBelow b3)⟩
    · have e0 : (!ts.isEmpty) = true := by cases ts with
        | nil => exact absurd rfl h2
        | cons => rfl
      rw [e0] at hH
      have HH := Lib.hid hH
      have HHo : Hid (∀ W1, Below W.heap.size W W1 → Calls Tryz.prog 24 #[.pointer (some ⟨A, 0, none⟩), .string (bs g), .int .i64 who, .int .i64 kh] W1 fun r w' => ∃ i, r = .returned (.int .i64 i) ∧ (ks = i ↔ ts = hostL g who th) ∧ Ta B w0 A P (n + 2) w' ∧ Kept W1 w') := fun W1 hb => (snHost_any (h.below hb) (by omega) g (by omega) who mh).mono fun r w' ⟨i, h3, h4, h5⟩ =>
        ⟨i, h3, h4.same (.tail _ ms) (.head _), h4.mono (Nat.le_refl _) (fun p hp => .tail _ hp), h5⟩
      by_cases h3 : ts = hostL g who th
      · rw [hc, if_pos ⟨h2, h3⟩]
        have HE := Lib.hid h3
        clear h hO hc h1 hH h2 e0 h3
        generalize bs g = G at *
        go_enter Tryz.func30, Tryz.ntmps30
        go_wp2_with (first
          | (go_at_call 40; (with_reducible refine HO.out.mono ?_); rintro e w1 ⟨rfl, b1⟩)
          | (go_at_call 59; (with_reducible refine (HH.out _ b1).mono ?_); rintro e w2 ⟨rfl, hw⟩; subst hw)
          | (go_at_call 24; (with_reducible refine (HHo.out _ b1).mono ?_); rintro e w3 ⟨i, rfl, hi, t3, k3⟩; have qe : (ks != i) = false := (by rw [hi.2 HE.out]; simp); clear hi)
          | fail)
        go_ret
        exact ⟨_, rfl, .inl ⟨rfl, rfl⟩, t3, (Kept.ofBelow b1).trans k3⟩
      · rw [hc, if_neg (fun hh => h3 hh.2)]
        have HE := Lib.hid h3
        clear h hO hc h1 hH h2 e0 h3
        generalize bs g = G at *
        go_enter Tryz.func30, Tryz.ntmps30
        go_wp2_with (first
          | (go_at_call 40; (with_reducible refine HO.out.mono ?_); rintro e w1 ⟨rfl, b1⟩)
          | (go_at_call 59; (with_reducible refine (HH.out _ b1).mono ?_); rintro e w2 ⟨rfl, hw⟩; subst hw)
          | (go_at_call 24; (with_reducible refine (HHo.out _ b1).mono ?_); rintro e w3 ⟨i, rfl, hi, t3, k3⟩; have qe : (ks != i) = true := (by rw [bne_iff_ne]; exact fun e => HE.out (hi.1 e)); clear hi)
          | (go_at_call 68; (with_reducible refine (HW2.out _).mono ?_); rintro e w4 ⟨b, rfl, f4, b4⟩)
          | fail)
        go_ret
        exact ⟨_, rfl, .inr (.inr ⟨rfl, b, rfl, f4⟩), t3.below b4, ((Kept.ofBelow b1).trans k3).trans (Kept.ofBelow b4)⟩
  · have hc : hostC g who tk ts th = 1 := if_neg h1
    rw [hc]
    have HO := Lib.hid hO
    have hcs : (ownerP tk).2 = false ∨ ((ownerP tk).2 = true ∧ ((ownerP tk).1 != who) = true) := by
      cases hb : (ownerP tk).2 with
      | false => exact .inl rfl
      | true =>
        refine .inr ⟨rfl, ?_⟩
        rw [bne_iff_ne]
        intro e
        exact h1 (by rw [← e, ← hb])
    clear h hO hc h1
    generalize (ownerP tk).2 = z at *
    generalize (ownerP tk).1 = y at *
    generalize bs g = G at *
    rcases hcs with rfl | ⟨rfl, qw⟩
    all_goals
      go_enter Tryz.func30, Tryz.ntmps30
      go_wp2_with (first
        | (go_at_call 40; (with_reducible refine HO.out.mono ?_); rintro e w1 ⟨rfl, b1⟩)
        | (go_at_call 68; (with_reducible refine (HW1.out _).mono ?_); rintro e w3 ⟨b, rfl, f3, b3⟩)
        | fail)
      go_ret
      exact ⟨_, rfl, .inr (.inl ⟨rfl, b, rfl, f3⟩), HM.out _ ((HT0.out.below b1).below b3), (Kept.ofBelow b1).trans (Kept.ofBelow b3)⟩
end
end Go.Proofs.YtbnecckgapainaaGreatDoor

namespace Go.Proofs.YtbnecckgapainaaGreatDoor
open Go.RowKit


theorem rnode_row (w : World) : Holds (w.alloc (.cells #[.int .i64 0, .int .i64 0, .int .i64 0, .string ⟨#[]⟩, .slice none 0 0] 127)) w.heap.size 127 #[.int .i64 0, .int .i64 0, .int .i64 0, .string ⟨#[]⟩, .slice none 0 0] := Holds.new w _ _
set_option maxRecDepth 100000 in
theorem refView_any (d : List UInt8) (hd : d.length ≤ 1000000) (hne : ∀ x ∈ (nodeOf d).args, x ≠ []) (w : World) : Calls Tryz.prog 71 #[.string (bs d)] w fun e w' => ∃ v, e = .returned (rnodeV (nodeOf d) v) ∧ TextsAt w' v ((nodeOf d).args.map bs) ∧ Below w.heap.size w w' := by
  have HP : Hid (∀ W : World, Calls Tryz.prog 104 #[.string (bs d), .int .i64 0] W fun e w' => ∃ (ao : Option Addr) (nn cap : Nat) (en : Int) (ok : Bool), e = .returned (.tuple #[.agg #[.int .i64 (nodeOf d).k, .int .i64 ((nodeOf d).a : Int), .int .i64 ((nodeOf d).b : Int), .string (bs (nodeOf d).s), .slice ao nn cap], .int .i64 en, .bool ok]) ∧ TextsAt w' (.slice ao nn cap) ((nodeOf d).args.map bs) ∧ Below W.heap.size W w') := fun W =>
    (Parse_any d hd W).mono fun e w' ⟨v, h1, h2, h3⟩ => by
      obtain ⟨ao, cap, rfl, hc⟩ := id h2
      exact ⟨ao, _, cap, _, _, h1, h2, h3⟩
  have HN := Lib.hid (rnode_row w)
  have HB : Hid (Below w.heap.size w (w.alloc (.cells #[.int .i64 0, .int .i64 0, .int .i64 0, .string ⟨#[]⟩, .slice none 0 0] 127))) := (Below.refl _ _).alloc (Nat.le_refl _) _
  generalize nodeOf d = nd at *
  obtain ⟨xk, xa, xb, xs, l⟩ := nd
  unfold rnodeV
  simp only at *
  have HL := Lib.hid hne
  clear hne
  generalize bs xs = S at *
  generalize (xa : Int) = a at *
  generalize (xb : Int) = b at *
  go_enter Tryz.func71, Tryz.ntmps71
  go_wp2_with (go_at_call 104; with_reducible refine (HP.out _).mono ?_; rintro e w1 ⟨ao, nn, cap, en, ok, rfl, hT, b1⟩; have hN1 := Holds.moves HN.out (Moves.ofBelow (S := nobody) b1) (fun h => h); have hB := HB.out.trans (b1.mono HB.out.size); clear HN HB b1; have hN := Holds.moves hN1 ((Moves.refl nobody w1).alloc (.cells #[.int .i64 xk, .int .i64 a, .int .i64 b, .string S, .slice ao nn cap] 127)) (fun h => h); have c0 := hN.cell 0; have c1 := hN.cell 1; have c2 := hN.cell 2; have c3 := hN.cell 3; have c4 := hN.cell 4; have f0 := hN.frozen 0; have f1 := hN.frozen 1; have f2 := hN.frozen 2; have f3 := hN.frozen 3; have f4 := hN.frozen 4)
  have hNf := Holds.set (Holds.set (Holds.set (Holds.set (Holds.set hN 0 (.int .i64 xk)) 1 (.int .i64 a)) 2 (.int .i64 b)) 3 (.string S)) 4 (.slice ao nn cap)
  have ma : Moves (fun i => i = w.heap.size) w1 (w1.alloc (.cells #[.int .i64 xk, .int .i64 a, .int .i64 b, .string S, .slice ao nn cap] 127)) := (Moves.refl _ w1).alloc _
  have mf := ((((ma.setCell (p := ⟨w.heap.size, 0, none⟩) (.inl rfl) (.int .i64 xk)).setCell (p := ⟨w.heap.size, 1, none⟩) (.inl rfl) (.int .i64 a)).setCell (p := ⟨w.heap.size, 2, none⟩) (.inl rfl) (.int .i64 b)).setCell (p := ⟨w.heap.size, 3, none⟩) (.inl rfl) (.string S)).setCell (p := ⟨w.heap.size, 4, none⟩) (.inl rfl) (.slice ao nn cap)
  refine bodyPost_ret (v := .agg #[.int .i64 xk, .int .i64 a, .int .i64 b, .string S, .slice ao nn cap]) ?_ rfl ⟨_, rfl, ?_, ?_⟩
  · exact results_cell_row rfl _ _ w.heap.size _ _ (0, 0) _ rfl hNf Tryz.underlying127 rfl (by kernel_rfl)
  · by_cases hl : l = []
    · subst hl
      obtain ⟨ao', cap', he, _⟩ := hT
      exact ⟨ao', cap', he, fun h => absurd rfl h⟩
    · refine hT.keep mf.size fun b' off c i hv hb => mf.cell (p := ⟨b', i, none⟩) hb (fun e => ?_)
      have e' : b' = w.heap.size := e
      obtain ⟨ao', cap', he, hc⟩ := hT
      obtain ⟨b2, off2, rfl, hb2, hcell⟩ := hc (by simpa using hl)
      have h0 := hcell 0 (bs (l[0]'(List.length_pos_iff.2 hl))) (by simp [List.getElem?_eq_getElem (List.length_pos_iff.2 hl)])
      rw [hv] at he
      simp only [Value.slice.injEq, Option.some.injEq, Addr.mk.injEq] at he
      obtain ⟨⟨hbb, _, _⟩, _⟩ := he
      rw [← hbb, e', Holds.cell hN1] at h0
      have hx := HL.out _ (List.getElem_mem (List.length_pos_iff.2 hl))
      have : off2 = 0 ∨ off2 = 1 ∨ off2 = 2 ∨ off2 = 3 ∨ off2 = 4 ∨ 5 ≤ off2 := by omega
      rcases this with rfl | rfl | rfl | rfl | rfl | h5
      · simp at h0
      · simp at h0
      · simp at h0
      · simp at h0
        exact hx (bs_inj (h0.symm.trans rfl))
      · simp at h0
      · rw [Nat.add_zero, List.getElem?_toArray, List.getElem?_eq_none (by simpa using h5)] at h0
        cases h0
  · exact hB.trans (mf.below hB.size (fun i hi => by omega))

end Go.Proofs.YtbnecckgapainaaGreatDoor

namespace Go.Proofs.YtbnecckgapainaaGreatDoor
open Go.RowKit

end Go.Proofs.YtbnecckgapainaaGreatDoor

namespace Go.Proofs.YtbnecckgapainaaGreatDoor
open Go.RowKit

theorem key_node {x : Nat} (h : x ≤ 2147483647) : kindL (refKeyL (x : Int)) = 3 ∧ nodeOf (refKeyL (x : Int)) = ⟨3, x, 0, [], []⟩ := by
  have hs := key_same Good.nil (by simp) (x : Int)
  have e1 := keyL_key h
  rcases hs.is with ⟨_, e⟩ | ⟨n, _, hn, e⟩
  · rw [e1] at e; cases e
  · have he : (keyM [] (x : Int)).2[n]? = some _ := List.getElem?_eq_getElem hn
    have hk : kindL (refKeyL (x : Int)) = 3 := by rw [e1]; rfl
    obtain ⟨a, ha, hsh⟩ := sh3 (hs.good.sh n _ he) (by rw [← (kind_enc0 hs.good hn).1, ← e]; exact hk)
    refine ⟨hk, ?_⟩
    have e2 : enc (keyM [] (x : Int)).2 n = 243 :: pack4 a := by
      rw [hs.good.enc_eq he, hsh]
      rfl
    have e3 := e1.symm.trans (e.trans e2)
    simp only [List.cons.injEq, true_and] at e3
    have e4 := (pack4_app (a := x) (b := a) (x := []) (y := []) (by omega) (by omega) (by rw [e3])).1
    rw [e, nodeOf_enc hs.good he, hsh, e4]
    rfl
theorem owner_pub {x : Nat} (h : x ≤ 2147483647) : ownerP (pubL (x : Int)) = ((x : Int), true) := by
  have e := pubL_pub h
  have hk : kindL (pubL (x : Int)) = 4 := by rw [e]; rfl
  unfold ownerP
  rw [if_pos hk, e, List.drop_succ_cons, List.drop_zero, ← keyL_key h, (key_node h).2]
/-- A text that is a public key only as one that is made. -/
def PubOk (t : List UInt8) : Prop := kindL t = 4 → ∃ x : Nat, x ≤ 2147483647 ∧ t = pubL (x : Int)
theorem owner_iff {t : List UInt8} (hT : PubOk t) (who : Int) : ownerP t = (who, true) ↔ t ≠ [] ∧ t = pubL who := by
  constructor
  · intro h
    by_cases h4 : kindL t = 4
    · obtain ⟨x, hx, e⟩ := hT h4
      rw [e, owner_pub hx] at h
      have hw : (x : Int) = who := congrArg Prod.fst h
      refine ⟨?_, by rw [e, hw]⟩
      rw [e, pubL_pub hx]
      simp
    · unfold ownerP at h
      rw [if_neg h4] at h
      exact absurd (congrArg Prod.snd h) (by simp)
  · rintro ⟨h1, h2⟩
    by_cases hw : 0 ≤ who ∧ who ≤ 2147483647
    · obtain ⟨x, rfl⟩ : ∃ x : Nat, who = x := ⟨who.toNat, by omega⟩
      rw [h2]
      exact owner_pub (by omega)
    · rw [h2, pubL_out (by omega)] at h1
      exact absurd rfl h1
theorem Ta.pubOk {B A n : Nat} {w0 W : World} {P : List (Int × List UInt8)} (h : Ta B w0 A P n W) {i : Int} {t : List UInt8} (h1 : (i, t) ∈ P) : PubOk t := fun h4 => by
  rcases h.text h1 with rfl | ⟨L, k, hG, hk, rfl, _⟩
  · simp [kindL] at h4
  · obtain ⟨x, m, e, hx, h5, _⟩ := pub_is hG hk h4
    exact ⟨x, hx, h5⟩
theorem keyL_short (who : Int) : (refKeyL who).length ≤ 100 := by
  by_cases hw : 0 ≤ who ∧ who ≤ 2147483647
  · obtain ⟨x, rfl⟩ : ∃ x : Nat, who = x := ⟨who.toNat, by omega⟩
    rw [keyL_key (by omega)]
    simp [pack4]
  · rw [keyL_out (by omega)]
    simp
set_option maxRecDepth 100000 in
theorem r22Pub_any (who : Int) (w : World) : Calls Tryz.prog 28 #[.int .i64 who] w fun e w' => e = .returned (.string (bs (pubL who))) ∧ Below w.heap.size w w' := by
  have HK := Lib.hid (fun W => refKey_any who W)
  have HP : Hid (∀ W : World, Calls Tryz.prog 66 #[.string (bs (refKeyL who))] W fun e w' => e = .returned (.string (bs (pubL who))) ∧ Below W.heap.size W w') := fun W => refPub_any (refKeyL who) (by have := keyL_short who; omega) W
  generalize pubL who = T at *
  generalize refKeyL who = K at *
  go_enter Tryz.func28, Tryz.ntmps28
  go_wp2_with (first
    | (go_at_call 62; (with_reducible refine (HK.out _).mono ?_); rintro e w1 ⟨rfl, b1⟩)
    | (go_at_call 66; (with_reducible refine (HP.out _).mono ?_); rintro e w2 ⟨rfl, b2⟩; have c2 := b1.trans (b2.mono b1.size)))
  go_ret
  exact ⟨rfl, c2⟩
set_option maxRecDepth 100000 in
theorem r22Host_any (g : List UInt8) (who : Int) (t : List UInt8) (hg : g.length ≤ 1000000) (ht : t.length ≤ 1000000) (w : World) : Calls Tryz.prog 25 #[.string (bs g), .int .i64 who, .string (bs t)] w fun e w' => e = .returned (.string (bs (hostL g who t))) ∧ Below w.heap.size w w' := by
  have HK := Lib.hid (fun W => refKey_any who W)
  have HS : Hid (∀ W : World, Calls Tryz.prog 61 #[.string (bs g), .string (bs (refKeyL who)), .string (bs t)] W fun e w' => e = .returned (.string (bs (hostL g who t))) ∧ Below W.heap.size W w') := fun W => refSign_any g (refKeyL who) t hg (by have := keyL_short who; omega) ht W
  generalize hostL g who t = T at *
  generalize refKeyL who = K at *
  clear hg ht
  go_enter Tryz.func25, Tryz.ntmps25
  go_wp2_with (first
    | (go_at_call 62; (with_reducible refine (HK.out _).mono ?_); rintro e w1 ⟨rfl, b1⟩)
    | (go_at_call 61; (with_reducible refine (HS.out _).mono ?_); rintro e w2 ⟨rfl, b2⟩; have c2 := b1.trans (b2.mono b1.size)))
  go_ret
  exact ⟨rfl, c2⟩
end Go.Proofs.YtbnecckgapainaaGreatDoor
