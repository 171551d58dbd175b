/- Part 28 of what the statement wants. -/
import Derived.BigQuiet
import Derived.Deep.RegionHeld3
import Derived.Test.YtjlbifpbdocahaaGreatDoorPk14
import Derived.Test.YtjlbifpbdocahaaGreatDoorPk18
import Derived.Test.YtjlbifpbdocahaaGreatDoorPk27
namespace Go.Proofs.YtjlbifpbdocahaaGreatDoor
open Go.RowKit

theorem refSign_nil (g k : List UInt8) : refSignL g k [] = [] := if_neg (fun h => h.2.2 rfl)
/-- What is wrong with a host's key and signature: 0 nothing, 1 the key, 2 the signature. -/
def hostC (g : List UInt8) (who : Int) (tk ts th : List UInt8) : Nat := if ownerP tk = (who, true) then (if ts ≠ [] ∧ ts = hostL g who th then 0 else 2) else 1
def userC (s u v g tk ts : List UInt8) : Nat := if (ownerP tk).2 = true then (if ts ≠ [] ∧ ts = userL s u v g (ownerP tk).1 then 0 else 2) else 1
def hostS : ByteArray := ⟨#[104, 111, 115, 116]⟩
def userS : ByteArray := ⟨#[117, 115, 101, 114]⟩
def keyS : ByteArray := ⟨#[107, 101, 121]⟩
def sigS : ByteArray := ⟨#[115, 105, 103, 110, 97, 116, 117, 114, 101]⟩
/-- The error that a check returns. -/
def ToldAt (w : World) (c : Nat) (x : ByteArray) (e : Int) (v : Value) : Prop :=
  (c = 0 ∧ v = .nilIface) ∨ (c = 1 ∧ ∃ b, v = .iface 156 (.pointer (some ⟨b, 0, none⟩)) ∧ FaultK w b x keyS e) ∨ (c = 2 ∧ ∃ b, v = .iface 156 (.pointer (some ⟨b, 0, none⟩)) ∧ FaultK w b x sigS e)
theorem ToldAt.kept {w w' : World} {c : Nat} {x : ByteArray} {e : Int} {v : Value} (h : ToldAt w c x e v) (k : Kept w w') : ToldAt w' c x e v := by
  rcases h with h | ⟨h, b, h1, h2⟩ | ⟨h, b, h1, h2⟩
  · exact .inl h
  · exact .inr (.inl ⟨h, b, h1, h2.kept k⟩)
  · exact .inr (.inr ⟨h, b, h1, h2.kept k⟩)
section
variable {B A n : Nat} {w0 W : World} {P : List (Int × List UInt8)}
set_option maxHeartbeats 1000000 in
set_option maxRecDepth 100000 in
theorem snUser_any (h : Ta B w0 A P n W) (hn : n ≤ 800) (u v g : List UInt8) (hu : u.length ≤ 10000) (hv : v.length ≤ 10000) (hg : g.length ≤ 10000) (who : Int) {ks : Int} {ts : List UInt8} (ms : (ks, ts) ∈ P) :
    Calls Tryz.prog 12 #[.pointer (some ⟨A, 0, none⟩), .int .i64 ks, .string (bs u), .string (bs v), .string (bs g), .int .i64 who] W (TaPost B w0 A P (n + 10) W (userL ts u v g who)) := by
  have hH := snHas_any h ms
  by_cases hts : ts = []
  · have e0 : (!ts.isEmpty) = false := by rw [hts]; rfl
    rw [e0] at hH
    have HH := Lib.hid hH
    have HT := Lib.hid (h.nonePost22 (m := n + 10) (by omega) (t := userL ts u v g who) (by
      unfold userL reqL refListL
      rw [if_neg]
      · exact refSign_nil _ _
      · rintro ⟨_, h2, _⟩
        rw [hts] at h2
        exact h2 [] (by simp) rfl))
    clear h hH e0 hts
    go_enter Tryz.func12, Tryz.ntmps12
    go_wp2_with (go_at_call 36; (with_reducible refine HH.out.mono ?_); rintro e w1 ⟨rfl, hw⟩; subst hw)
    go_ret
    exact HT.out
  have e1 : (!ts.isEmpty) = true := by cases ts with
    | nil => exact absurd rfl hts
    | cons => rfl
  rw [e1] at hH
  have HH := Lib.hid hH
  have HK := Lib.hid (taKey h (by omega) who)
  have HP : Hid (∀ (k : Int) (w1 : World), Ta B w0 A ((k, refKeyL who) :: P) (n + 1) w1 → Calls Tryz.prog 17 #[.pointer (some ⟨A, 0, none⟩), .int .i64 k] w1 (TaPost B w0 A ((k, refKeyL who) :: P) (n + 2) w1 (pubL who))) := fun k w1 h1 => taPub h1 (by omega) (.head _)
  have HR : Hid (∀ (p k : Int) (w1 : World), Ta B w0 A ((p, pubL who) :: (k, refKeyL who) :: P) (n + 2) w1 → Calls Tryz.prog 15 #[.pointer (some ⟨A, 0, none⟩), .int .i64 ks, .string (bs u), .string (bs v), .string (bs g), .int .i64 p] w1 (TaPost B w0 A ((p, pubL who) :: (k, refKeyL who) :: P) (n + 9) w1 (reqL ts u v g (pubL who)))) := fun p k w1 h1 => snRequest_any h1 (by omega) u v g hu hv hg (.tail _ (.tail _ ms)) (.head _)
  have HS : Hid (∀ (r p k : Int) (w1 : World), Ta B w0 A ((r, reqL ts u v g (pubL who)) :: (p, pubL who) :: (k, refKeyL who) :: P) (n + 9) w1 → Calls Tryz.prog 37 #[.pointer (some ⟨A, 0, none⟩), .string (bs g), .int .i64 k, .int .i64 r] w1 (TaPost B w0 A ((r, reqL ts u v g (pubL who)) :: (p, pubL who) :: (k, refKeyL who) :: P) (n + 10) w1 (userL ts u v g who))) := fun r p k w1 h1 => taSign h1 (by omega) g (by omega) (.tail _ (.tail _ (.head _))) (.head _)
  generalize userL ts u v g who = T3 at *
  generalize reqL ts u v g (pubL who) = T2 at *
  generalize pubL who = T1 at *
  generalize refKeyL who = T0 at *
  generalize bs u = U at *
  generalize bs v = V at *
  generalize bs g = G at *
  clear h hH e1 hts hu hv hg
  go_enter Tryz.func12, Tryz.ntmps12
  go_wp2_with (first
    | (go_at_call 36; (with_reducible refine HH.out.mono ?_); rintro e w1 ⟨rfl, hw⟩; subst hw)
    | (go_at_call 18; (with_reducible refine HK.out.mono ?_); rintro e w1 ⟨k, rfl, t1, k1⟩)
    | (go_at_call 17; (with_reducible refine (HP.out _ _ t1).mono ?_); rintro e w2 ⟨p, rfl, t2, k2⟩)
    | (go_at_call 15; (with_reducible refine (HR.out _ _ _ t2).mono ?_); rintro e w3 ⟨r, rfl, t3, k3⟩)
    | (go_at_call 37; (with_reducible refine (HS.out _ _ _ _ t3).mono ?_); rintro e w4 ⟨i, rfl, t4, k4⟩)
    | fail)
  go_ret
  exact ⟨i, rfl, t4.mono (Nat.le_refl _) (fun q hq => by
    rcases List.mem_cons.1 hq with rfl | hq
    · exact .head _
    · exact .tail _ (.tail _ (.tail _ (.tail _ hq)))), ((k1.trans k2).trans k3).trans k4⟩
set_option maxHeartbeats 2000000 in
set_option maxRecDepth 100000 in
theorem snCheckHost_any (h : Ta B w0 A P n W) (hn : n ≤ 800) (g : List UInt8) (hg : g.length ≤ 10000) (who : Int) {kk ks kh : Int} {tk ts th : List UInt8} (mk : (kk, tk) ∈ P) (ms : (ks, ts) ∈ P) (mh : (kh, th) ∈ P) :
    Calls Tryz.prog 33 #[.pointer (some ⟨A, 0, none⟩), .string (bs g), .int .i64 who, .int .i64 kk, .int .i64 ks, .int .i64 kh] W fun e w' => ∃ v, e = .returned v ∧ ToldAt w' (hostC g who tk ts th) hostS 9 v ∧ Ta B w0 A P (n + 2) w' ∧ Kept W w' := by
  have hO := snOwner_any h mk
  have HW1 : Hid (∀ W1 : World, Calls Tryz.prog 53 #[.string ⟨#[104, 111, 115, 116]⟩, .string ⟨#[107, 101, 121]⟩, .int .i64 9] W1 fun r w' => ∃ b, r = .returned (.iface 156 (.pointer (some ⟨b, 0, none⟩))) ∧ FaultK w' b hostS keyS 9 ∧ Below W1.heap.size W1 w') := fun W1 => snWrong_any _ _ 9 (by decide) W1
  have HW2 : Hid (∀ W1 : World, Calls Tryz.prog 53 #[.string ⟨#[104, 111, 115, 116]⟩, .string ⟨#[115, 105, 103, 110, 97, 116, 117, 114, 101]⟩, .int .i64 9] W1 fun r w' => ∃ b, r = .returned (.iface 156 (.pointer (some ⟨b, 0, none⟩))) ∧ FaultK w' b hostS sigS 9 ∧ Below W1.heap.size W1 w') := fun W1 => snWrong_any _ _ 9 (by decide) W1
  have HM : Hid (∀ W1, Ta B w0 A P n W1 → Ta B w0 A P (n + 2) W1) := fun W1 h1 => h1.mono (by omega) (fun p hp => hp)
  have HT0 := Lib.hid h
  by_cases h1 : ownerP tk = (who, true)
  · have hc : hostC g who tk ts th = if ts ≠ [] ∧ ts = hostL g who th then 0 else 2 := if_pos h1
    have qw : (who != who) = false := by simp
    rw [h1] at hO
    have HO := Lib.hid hO
    have hH : ∀ W1, Below W.heap.size W W1 → Calls Tryz.prog 36 #[.pointer (some ⟨A, 0, none⟩), .int .i64 ks] W1 fun e w' => e = .returned (.bool (!ts.isEmpty)) ∧ W1 = w' := fun W1 hb => snHas_any (h.below hb) ms
    by_cases h2 : ts = []
    · rw [hc, if_neg (fun hh => hh.1 h2)]
      have e0 : (!ts.isEmpty) = false := by rw [h2]; rfl
      rw [e0] at hH
      have HH := Lib.hid hH
      clear h hO hc h1 hH h2 e0
      generalize bs g = G at *
      go_enter Tryz.func33, Tryz.ntmps33
      go_wp2_with (first
        | (go_at_call 52; (with_reducible refine HO.out.mono ?_); rintro e w1 ⟨rfl, b1⟩)
        | (go_at_call 36; (with_reducible refine (HH.out _ b1).mono ?_); rintro e w2 ⟨rfl, hw⟩; subst hw)
        | (go_at_call 53; (with_reducible refine (HW2.out _).mono ?_); rintro e w3 ⟨b, rfl, f3, b3⟩)
        | fail)
      go_ret
      exact ⟨_, rfl, .inr (.inr ⟨rfl, b, rfl, f3⟩), HM.out _ ((HT0.out.below b1).below b3), (Kept.ofBelow b1).trans (Kept.ofBelow b3)⟩
    · have e0 : (!ts.isEmpty) = true := by cases ts with
        | nil => exact absurd rfl h2
        | cons => rfl
      rw [e0] at hH
      have HH := Lib.hid hH
      have HHo : Hid (∀ W1, Below W.heap.size W W1 → Calls Tryz.prog 23 #[.pointer (some ⟨A, 0, none⟩), .string (bs g), .int .i64 who, .int .i64 kh] W1 fun r w' => ∃ i, r = .returned (.int .i64 i) ∧ (ks = i ↔ ts = hostL g who th) ∧ Ta B w0 A P (n + 2) w' ∧ Kept W1 w') := fun W1 hb => (snHost_any (h.below hb) (by omega) g (by omega) who mh).mono fun r w' ⟨i, h3, h4, h5⟩ =>
        ⟨i, h3, h4.same (.tail _ ms) (.head _), h4.mono (Nat.le_refl _) (fun p hp => .tail _ hp), h5⟩
      by_cases h3 : ts = hostL g who th
      · rw [hc, if_pos ⟨h2, h3⟩]
        have HE := Lib.hid h3
        clear h hO hc h1 hH h2 e0 h3
        generalize bs g = G at *
        go_enter Tryz.func33, Tryz.ntmps33
        go_wp2_with (first
          | (go_at_call 52; (with_reducible refine HO.out.mono ?_); rintro e w1 ⟨rfl, b1⟩)
          | (go_at_call 36; (with_reducible refine (HH.out _ b1).mono ?_); rintro e w2 ⟨rfl, hw⟩; subst hw)
          | (go_at_call 23; (with_reducible refine (HHo.out _ b1).mono ?_); rintro e w3 ⟨i, rfl, hi, t3, k3⟩; have qe : (ks != i) = false := (by rw [hi.2 HE.out]; simp); clear hi)
          | fail)
        go_ret
        exact ⟨_, rfl, .inl ⟨rfl, rfl⟩, t3, (Kept.ofBelow b1).trans k3⟩
      · rw [hc, if_neg (fun hh => h3 hh.2)]
        have HE := Lib.hid h3
        clear h hO hc h1 hH h2 e0 h3
        generalize bs g = G at *
        go_enter Tryz.func33, Tryz.ntmps33
        go_wp2_with (first
          | (go_at_call 52; (with_reducible refine HO.out.mono ?_); rintro e w1 ⟨rfl, b1⟩)
          | (go_at_call 36; (with_reducible refine (HH.out _ b1).mono ?_); rintro e w2 ⟨rfl, hw⟩; subst hw)
          | (go_at_call 23; (with_reducible refine (HHo.out _ b1).mono ?_); rintro e w3 ⟨i, rfl, hi, t3, k3⟩; have qe : (ks != i) = true := (by rw [bne_iff_ne]; exact fun e => HE.out (hi.1 e)); clear hi)
          | (go_at_call 53; (with_reducible refine (HW2.out _).mono ?_); rintro e w4 ⟨b, rfl, f4, b4⟩)
          | fail)
        go_ret
        exact ⟨_, rfl, .inr (.inr ⟨rfl, b, rfl, f4⟩), t3.below b4, ((Kept.ofBelow b1).trans k3).trans (Kept.ofBelow b4)⟩
  · have hc : hostC g who tk ts th = 1 := if_neg h1
    rw [hc]
    have HO := Lib.hid hO
    have hcs : (ownerP tk).2 = false ∨ ((ownerP tk).2 = true ∧ ((ownerP tk).1 != who) = true) := by
      cases hb : (ownerP tk).2 with
      | false => exact .inl rfl
      | true =>
        refine .inr ⟨rfl, ?_⟩
        rw [bne_iff_ne]
        intro e
        exact h1 (by rw [← e, ← hb])
    clear h hO hc h1
    generalize (ownerP tk).2 = z at *
    generalize (ownerP tk).1 = y at *
    generalize bs g = G at *
    rcases hcs with rfl | ⟨rfl, qw⟩
    all_goals
      go_enter Tryz.func33, Tryz.ntmps33
      go_wp2_with (first
        | (go_at_call 52; (with_reducible refine HO.out.mono ?_); rintro e w1 ⟨rfl, b1⟩)
        | (go_at_call 53; (with_reducible refine (HW1.out _).mono ?_); rintro e w3 ⟨b, rfl, f3, b3⟩)
        | fail)
      go_ret
      exact ⟨_, rfl, .inr (.inl ⟨rfl, b, rfl, f3⟩), HM.out _ ((HT0.out.below b1).below b3), (Kept.ofBelow b1).trans (Kept.ofBelow b3)⟩
set_option maxHeartbeats 2000000 in
set_option maxRecDepth 100000 in
theorem snCheckUser_any (h : Ta B w0 A P n W) (hn : n ≤ 700) (u v g : List UInt8) (hu : u.length ≤ 10000) (hv : v.length ≤ 10000) (hg : g.length ≤ 10000) {ks kk kt : Int} {ts tk tt : List UInt8} (ms : (ks, ts) ∈ P) (mk : (kk, tk) ∈ P) (mt : (kt, tt) ∈ P) :
    Calls Tryz.prog 21 #[.pointer (some ⟨A, 0, none⟩), .int .i64 ks, .string (bs u), .string (bs v), .string (bs g), .int .i64 kk, .int .i64 kt] W fun e w' => ∃ x, e = .returned x ∧ ToldAt w' (userC ts u v g tk tt) userS 12 x ∧ Ta B w0 A P (n + 10) w' ∧ Kept W w' := by
  have hO := snOwner_any h mk
  have HW1 : Hid (∀ W1 : World, Calls Tryz.prog 53 #[.string ⟨#[117, 115, 101, 114]⟩, .string ⟨#[107, 101, 121]⟩, .int .i64 12] W1 fun r w' => ∃ b, r = .returned (.iface 156 (.pointer (some ⟨b, 0, none⟩))) ∧ FaultK w' b userS keyS 12 ∧ Below W1.heap.size W1 w') := fun W1 => snWrong_any _ _ 12 (by decide) W1
  have HW2 : Hid (∀ W1 : World, Calls Tryz.prog 53 #[.string ⟨#[117, 115, 101, 114]⟩, .string ⟨#[115, 105, 103, 110, 97, 116, 117, 114, 101]⟩, .int .i64 12] W1 fun r w' => ∃ b, r = .returned (.iface 156 (.pointer (some ⟨b, 0, none⟩))) ∧ FaultK w' b userS sigS 12 ∧ Below W1.heap.size W1 w') := fun W1 => snWrong_any _ _ 12 (by decide) W1
  have HM : Hid (∀ W1, Ta B w0 A P n W1 → Ta B w0 A P (n + 10) W1) := fun W1 h1 => h1.mono (by omega) (fun p hp => hp)
  have HT0 := Lib.hid h
  cases h1 : (ownerP tk).2 with
  | true =>
    have hc : userC ts u v g tk tt = if tt ≠ [] ∧ tt = userL ts u v g (ownerP tk).1 then 0 else 2 := if_pos h1
    rw [h1] at hO
    have HO := Lib.hid hO
    have hH : ∀ W1, Below W.heap.size W W1 → Calls Tryz.prog 36 #[.pointer (some ⟨A, 0, none⟩), .int .i64 kt] W1 fun e w' => e = .returned (.bool (!tt.isEmpty)) ∧ W1 = w' := fun W1 hb => snHas_any (h.below hb) mt
    by_cases h2 : tt = []
    · rw [hc, if_neg (fun hh => hh.1 h2)]
      have e0 : (!tt.isEmpty) = false := by rw [h2]; rfl
      rw [e0] at hH
      have HH := Lib.hid hH
      clear h hO hc h1 hH h2 e0 hu hv hg
      generalize (ownerP tk).1 = y at *
      generalize bs g = G at *
      generalize bs u = U at *
      generalize bs v = V at *
      go_enter Tryz.func21, Tryz.ntmps21
      go_wp2_with (first
        | (go_at_call 52; (with_reducible refine HO.out.mono ?_); rintro e w1 ⟨rfl, b1⟩)
        | (go_at_call 36; (with_reducible refine (HH.out _ b1).mono ?_); rintro e w2 ⟨rfl, hw⟩; subst hw)
        | (go_at_call 53; (with_reducible refine (HW2.out _).mono ?_); rintro e w3 ⟨b, rfl, f3, b3⟩)
        | fail)
      go_ret
      exact ⟨_, rfl, .inr (.inr ⟨rfl, b, rfl, f3⟩), HM.out _ ((HT0.out.below b1).below b3), (Kept.ofBelow b1).trans (Kept.ofBelow b3)⟩
    · have e0 : (!tt.isEmpty) = true := by cases tt with
        | nil => exact absurd rfl h2
        | cons => rfl
      rw [e0] at hH
      have HH := Lib.hid hH
      have HHo : Hid (∀ W1, Below W.heap.size W W1 → Calls Tryz.prog 12 #[.pointer (some ⟨A, 0, none⟩), .int .i64 ks, .string (bs u), .string (bs v), .string (bs g), .int .i64 (ownerP tk).1] W1 fun r w' => ∃ i, r = .returned (.int .i64 i) ∧ (kt = i ↔ tt = userL ts u v g (ownerP tk).1) ∧ Ta B w0 A P (n + 10) w' ∧ Kept W1 w') := fun W1 hb => (snUser_any (h.below hb) (by omega) u v g hu hv hg (ownerP tk).1 ms).mono fun r w' ⟨i, h3, h4, h5⟩ =>
        ⟨i, h3, h4.same (.tail _ mt) (.head _), h4.mono (Nat.le_refl _) (fun p hp => .tail _ hp), h5⟩
      by_cases h3 : tt = userL ts u v g (ownerP tk).1
      · rw [hc, if_pos ⟨h2, h3⟩]
        have HE := Lib.hid h3
        clear h hO hc h1 hH h2 e0 h3 hu hv hg
        generalize userL ts u v g (ownerP tk).1 = RU at *
        generalize (ownerP tk).1 = y at *
        generalize bs g = G at *
        generalize bs u = U at *
        generalize bs v = V at *
        go_enter Tryz.func21, Tryz.ntmps21
        go_wp2_with (first
          | (go_at_call 52; (with_reducible refine HO.out.mono ?_); rintro e w1 ⟨rfl, b1⟩)
          | (go_at_call 36; (with_reducible refine (HH.out _ b1).mono ?_); rintro e w2 ⟨rfl, hw⟩; subst hw)
          | (go_at_call 12; (with_reducible refine (HHo.out _ b1).mono ?_); rintro e w3 ⟨i, rfl, hi, t3, k3⟩; have qe : (kt != i) = false := (by rw [hi.2 HE.out]; simp); clear hi)
          | fail)
        go_ret
        exact ⟨_, rfl, .inl ⟨rfl, rfl⟩, t3, (Kept.ofBelow b1).trans k3⟩
      · rw [hc, if_neg (fun hh => h3 hh.2)]
        have HE := Lib.hid h3
        clear h hO hc h1 hH h2 e0 h3 hu hv hg
        generalize userL ts u v g (ownerP tk).1 = RU at *
        generalize (ownerP tk).1 = y at *
        generalize bs g = G at *
        generalize bs u = U at *
        generalize bs v = V at *
        go_enter Tryz.func21, Tryz.ntmps21
        go_wp2_with (first
          | (go_at_call 52; (with_reducible refine HO.out.mono ?_); rintro e w1 ⟨rfl, b1⟩)
          | (go_at_call 36; (with_reducible refine (HH.out _ b1).mono ?_); rintro e w2 ⟨rfl, hw⟩; subst hw)
          | (go_at_call 12; (with_reducible refine (HHo.out _ b1).mono ?_); rintro e w3 ⟨i, rfl, hi, t3, k3⟩; have qe : (kt != i) = true := (by rw [bne_iff_ne]; exact fun e => HE.out (hi.1 e)); clear hi)
          | (go_at_call 53; (with_reducible refine (HW2.out _).mono ?_); rintro e w4 ⟨b, rfl, f4, b4⟩)
          | fail)
        go_ret
        exact ⟨_, rfl, .inr (.inr ⟨rfl, b, rfl, f4⟩), t3.below b4, ((Kept.ofBelow b1).trans k3).trans (Kept.ofBelow b4)⟩
  | false =>
    have hc : userC ts u v g tk tt = 1 := if_neg (by rw [h1]; simp)
    rw [hc]
    rw [h1] at hO
    have HO := Lib.hid hO
    clear h hO hc h1 hu hv hg
    generalize (ownerP tk).1 = y at *
    generalize bs g = G at *
    generalize bs u = U at *
    generalize bs v = V at *
    go_enter Tryz.func21, Tryz.ntmps21
    go_wp2_with (first
      | (go_at_call 52; (with_reducible refine HO.out.mono ?_); rintro e w1 ⟨rfl, b1⟩)
      | (go_at_call 53; (with_reducible refine (HW1.out _).mono ?_); rintro e w3 ⟨b, rfl, f3, b3⟩)
      | fail)
    go_ret
    exact ⟨_, rfl, .inr (.inl ⟨rfl, b, rfl, f3⟩), HM.out _ ((HT0.out.below b1).below b3), (Kept.ofBelow b1).trans (Kept.ofBelow b3)⟩
end
end Go.Proofs.YtjlbifpbdocahaaGreatDoor

namespace Go.Proofs.YtjlbifpbdocahaaGreatDoor
open Go.RowKit


theorem rnode_row (w : World) : Holds (w.alloc (.cells #[.int .i64 0, .int .i64 0, .int .i64 0, .string ⟨#[]⟩, .slice none 0 0] 145)) w.heap.size 145 #[.int .i64 0, .int .i64 0, .int .i64 0, .string ⟨#[]⟩, .slice none 0 0] := Holds.new w _ _
set_option maxRecDepth 100000 in
theorem refView_any (d : List UInt8) (hd : d.length ≤ 1000000) (hne : ∀ x ∈ (nodeOf d).args, x ≠ []) (w : World) : Calls Tryz.prog 94 #[.string (bs d)] w fun e w' => ∃ v, e = .returned (rnodeV (nodeOf d) v) ∧ TextsAt w' v ((nodeOf d).args.map bs) ∧ Below w.heap.size w w' := by
  have HP : Hid (∀ W : World, Calls Tryz.prog 127 #[.string (bs d), .int .i64 0] W fun e w' => ∃ (ao : Option Addr) (nn cap : Nat) (en : Int) (ok : Bool), e = .returned (.tuple #[.agg #[.int .i64 (nodeOf d).k, .int .i64 ((nodeOf d).a : Int), .int .i64 ((nodeOf d).b : Int), .string (bs (nodeOf d).s), .slice ao nn cap], .int .i64 en, .bool ok]) ∧ TextsAt w' (.slice ao nn cap) ((nodeOf d).args.map bs) ∧ Below W.heap.size W w') := fun W =>
    (Parse_any d hd W).mono fun e w' ⟨v, h1, h2, h3⟩ => by
      obtain ⟨ao, cap, rfl, hc⟩ := id h2
      exact ⟨ao, _, cap, _, _, h1, h2, h3⟩
  have HN := Lib.hid (rnode_row w)
  have HB : Hid (Below w.heap.size w (w.alloc (.cells #[.int .i64 0, .int .i64 0, .int .i64 0, .string ⟨#[]⟩, .slice none 0 0] 145))) := (Below.refl _ _).alloc (Nat.le_refl _) _
  generalize nodeOf d = nd at *
  obtain ⟨xk, xa, xb, xs, l⟩ := nd
  unfold rnodeV
  simp only at *
  have HL := Lib.hid hne
  clear hne
  generalize bs xs = S at *
  generalize (xa : Int) = a at *
  generalize (xb : Int) = b at *
  go_enter Tryz.func94, Tryz.ntmps94
  go_wp2_with (go_at_call 127; with_reducible refine (HP.out _).mono ?_; rintro e w1 ⟨ao, nn, cap, en, ok, rfl, hT, b1⟩; have hN1 := Holds.moves HN.out (Moves.ofBelow (S := nobody) b1) (fun h => h); have hB := HB.out.trans (b1.mono HB.out.size); clear HN HB b1; have hN := Holds.moves hN1 ((Moves.refl nobody w1).alloc (.cells #[.int .i64 xk, .int .i64 a, .int .i64 b, .string S, .slice ao nn cap] 145)) (fun h => h); have c0 := hN.cell 0; have c1 := hN.cell 1; have c2 := hN.cell 2; have c3 := hN.cell 3; have c4 := hN.cell 4; have f0 := hN.frozen 0; have f1 := hN.frozen 1; have f2 := hN.frozen 2; have f3 := hN.frozen 3; have f4 := hN.frozen 4)
  have hNf := Holds.set (Holds.set (Holds.set (Holds.set (Holds.set hN 0 (.int .i64 xk)) 1 (.int .i64 a)) 2 (.int .i64 b)) 3 (.string S)) 4 (.slice ao nn cap)
  have ma : Moves (fun i => i = w.heap.size) w1 (w1.alloc (.cells #[.int .i64 xk, .int .i64 a, .int .i64 b, .string S, .slice ao nn cap] 145)) := (Moves.refl _ w1).alloc _
  have mf := ((((ma.setCell (p := ⟨w.heap.size, 0, none⟩) (.inl rfl) (.int .i64 xk)).setCell (p := ⟨w.heap.size, 1, none⟩) (.inl rfl) (.int .i64 a)).setCell (p := ⟨w.heap.size, 2, none⟩) (.inl rfl) (.int .i64 b)).setCell (p := ⟨w.heap.size, 3, none⟩) (.inl rfl) (.string S)).setCell (p := ⟨w.heap.size, 4, none⟩) (.inl rfl) (.slice ao nn cap)
  refine bodyPost_ret (v := .agg #[.int .i64 xk, .int .i64 a, .int .i64 b, .string S, .slice ao nn cap]) ?_ rfl ⟨_, rfl, ?_, ?_⟩
  · exact results_cell_row rfl _ _ w.heap.size _ _ (0, 0) _ rfl hNf Tryz.underlying145 rfl (by kernel_rfl)
  · by_cases hl : l = []
    · subst hl
      obtain ⟨ao', cap', he, _⟩ := hT
      exact ⟨ao', cap', he, fun h => absurd rfl h⟩
    · refine hT.keep mf.size fun b' off c i hv hb => mf.cell (p := ⟨b', i, none⟩) hb (fun e => ?_)
      have e' : b' = w.heap.size := e
      obtain ⟨ao', cap', he, hc⟩ := hT
      obtain ⟨b2, off2, rfl, hb2, hcell⟩ := hc (by simpa using hl)
      have h0 := hcell 0 (bs (l[0]'(List.length_pos_iff.2 hl))) (by simp [List.getElem?_eq_getElem (List.length_pos_iff.2 hl)])
      rw [hv] at he
      simp only [Value.slice.injEq, Option.some.injEq, Addr.mk.injEq] at he
      obtain ⟨⟨hbb, _, _⟩, _⟩ := he
      rw [← hbb, e', Holds.cell hN1] at h0
      have hx := HL.out _ (List.getElem_mem (List.length_pos_iff.2 hl))
      have : off2 = 0 ∨ off2 = 1 ∨ off2 = 2 ∨ off2 = 3 ∨ off2 = 4 ∨ 5 ≤ off2 := by omega
      rcases this with rfl | rfl | rfl | rfl | rfl | h5
      · simp at h0
      · simp at h0
      · simp at h0
      · simp at h0
        exact hx (bs_inj (h0.symm.trans rfl))
      · simp at h0
      · rw [Nat.add_zero, List.getElem?_toArray, List.getElem?_eq_none (by simpa using h5)] at h0
        cases h0
  · exact hB.trans (mf.below hB.size (fun i hi => by omega))

end Go.Proofs.YtjlbifpbdocahaaGreatDoor

namespace Go.Proofs.YtjlbifpbdocahaaGreatDoor
open Go.RowKit

end Go.Proofs.YtjlbifpbdocahaaGreatDoor
