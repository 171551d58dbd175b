/- Part 33 of what the statement wants. -/
import Derived.Test.YtbnecckgapainaaGreatDoorPk28
import Derived.Test.YtbnecckgapainaaGreatDoorPk32
namespace Go.Proofs.YtbnecckgapainaaGreatDoor
open Go.RowKit

theorem ba_nil_append (x : ByteArray) : (⟨#[]⟩ : ByteArray) ++ x = x := by
  apply ByteArray.ext
  simp
set_option maxHeartbeats 2000000 in
set_option maxRecDepth 100000 in
theorem told22_any {w : World} (hg : TypeOfError w) {c : Nat} {x : ByteArray} {e : Int} {v : Value} (hv : ToldAt w c x e v) (hx : x.size ≤ 100) :
    Calls Tryz.prog 29 #[v, .int .i64 e, .string x, .string (partS c)] w fun r w' => r = .returned (.bool true) ∧ Below w.heap.size w w' := by
  rcases hv with ⟨rfl, rfl⟩ | ⟨rfl, b, rfl, hF⟩ | ⟨rfl, b, rfl, hF⟩
  · rw [show partS 0 = ⟨#[]⟩ from rfl]
    have HR : Hid (Below w.heap.size w w) := Below.refl _ _
    clear hg hx
    go_enter Tryz.func29, Tryz.ntmps29
    go_wp2_with fail
    go_ret
    exact ⟨rfl, HR.out⟩
  · have h := wrong_any hg hF.err (by simp) (fun z hz => by
      simp only [List.mem_cons, List.not_mem_nil, or_false] at hz
      rcases hz with rfl | rfl
      · omega
      · decide)
    have ha : atP [x, keyS] = x ++ ⟨#[32]⟩ ++ keyS ++ ⟨#[32]⟩ := by
      unfold atP
      show ((⟨#[]⟩ ++ x) ++ ⟨#[32]⟩) ++ keyS ++ ⟨#[32]⟩ = _
      rw [ba_nil_append]
    rw [ha] at h
    have HW : Hid (Calls Tryz.prog 67 #[.iface 166 (.pointer (some ⟨b, 0, none⟩)), .agg #[.int .i64 e, .string (x ++ ⟨#[32]⟩ ++ keyS ++ ⟨#[32]⟩)]] w fun r w' => r = .returned (.bool true) ∧ Below w.heap.size w w') := h
    rw [show partS 1 = keyS from rfl]
    have q1 : keyS.toList.isEmpty = false := by rw [ba_toList]; rfl
    have hk : keyS.size = 3 := rfl
    generalize keyS = K at *
    clear h ha hF hg
    go_enter Tryz.func29, Tryz.ntmps29
    go_wp2_with (go_at_call 67; (with_reducible refine HW.out.mono ?_); rintro e w1 ⟨rfl, b1⟩)
    go_ret
    exact ⟨rfl, b1⟩
  · have h := wrong_any hg hF.err (by simp) (fun z hz => by
      simp only [List.mem_cons, List.not_mem_nil, or_false] at hz
      rcases hz with rfl | rfl
      · omega
      · decide)
    have ha : atP [x, sigS] = x ++ ⟨#[32]⟩ ++ sigS ++ ⟨#[32]⟩ := by
      unfold atP
      show ((⟨#[]⟩ ++ x) ++ ⟨#[32]⟩) ++ sigS ++ ⟨#[32]⟩ = _
      rw [ba_nil_append]
    rw [ha] at h
    have HW : Hid (Calls Tryz.prog 67 #[.iface 166 (.pointer (some ⟨b, 0, none⟩)), .agg #[.int .i64 e, .string (x ++ ⟨#[32]⟩ ++ sigS ++ ⟨#[32]⟩)]] w fun r w' => r = .returned (.bool true) ∧ Below w.heap.size w w') := h
    rw [show partS 2 = sigS from rfl]
    have q1 : sigS.toList.isEmpty = false := by rw [ba_toList]; rfl
    have hk : sigS.size = 9 := rfl
    generalize sigS = K at *
    clear h ha hF hg
    go_enter Tryz.func29, Tryz.ntmps29
    go_wp2_with (go_at_call 67; (with_reducible refine HW.out.mono ?_); rintro e w1 ⟨rfl, b1⟩)
    go_ret
    exact ⟨rfl, b1⟩
/-- The page's example, its terms as texts. -/
theorem ex22 : refHashL (refDataL [104]) ≠ [] ∧ hostL [115, 115, 104, 45, 97] 1 (refHashL (refDataL [104])) ≠ [] := by decide +kernel
theorem ex22_one : hostC [115, 115, 104, 45, 97] 1 (pubL 1) (hostL [115, 115, 104, 45, 97] 1 (refHashL (refDataL [104]))) (refHashL (refDataL [104])) = 0 := by
  have h := owner_pub (x := 1) (by omega)
  rw [show ((1 : Nat) : Int) = 1 from rfl] at h
  unfold hostC
  rw [if_pos h, if_pos ⟨ex22.2, rfl⟩]
theorem ex22_two : hostC [115, 115, 104, 45, 97] 1 (pubL 2) (hostL [115, 115, 104, 45, 97] 1 (refHashL (refDataL [104]))) (refHashL (refDataL [104])) = 1 := by
  have h := owner_pub (x := 2) (by omega)
  rw [show ((2 : Nat) : Int) = 2 from rfl] at h
  unfold hostC
  rw [if_neg]
  rw [h]
  simp
theorem ex22_letters : ∃ (x g : List UInt8) (a b : Int), bs x = ⟨#[104]⟩ ∧ bs g = ⟨#[115, 115, 104, 45, 97]⟩ ∧ x.length ≤ 10 ∧ g.length ≤ 10 ∧ a = 1 ∧ b = 2 ∧ hostC g a (pubL a) (hostL g a (refHashL (refDataL x))) (refHashL (refDataL x)) = 0 ∧ hostC g a (pubL b) (hostL g a (refHashL (refDataL x))) (refHashL (refDataL x)) = 1 :=
  ⟨[104], [115, 115, 104, 45, 97], 1, 2, rfl, rfl, by simp, by simp, rfl, rfl, ex22_one, ex22_two⟩
set_option maxHeartbeats 4000000 in
set_option maxRecDepth 100000 in
theorem awake22_any (w : World) (hg : TypeOfError w) : Calls Tryz.prog 22 #[] w fun e w' => e = .returned (.bool true) ∧ Below w.heap.size w w' := by
  obtain ⟨x, g, a, b, ex, eg, lx, lg, ea, eb, E1, E2⟩ := ex22_letters
  have HN := Lib.hid (taNew w)
  have h1 : ∀ (A : Nat) (W : World), Ta w.heap.size w A [] 0 W → Calls Tryz.prog 58 #[.pointer (some ⟨A, 0, none⟩), .string (bs x)] W (TaPost w.heap.size w A [] 1 W (refDataL x)) := fun A W h => taData h (by omega) x (by omega)
  have h2 : ∀ (d : Int) (A : Nat) (W : World), Ta w.heap.size w A [(d, refDataL x)] 1 W → Calls Tryz.prog 39 #[.pointer (some ⟨A, 0, none⟩), .int .i64 d] W (TaPost w.heap.size w A [(d, refDataL x)] 2 W (refHashL (refDataL x))) := fun d A W h => taHash h (by omega) (.head _)
  generalize refDataL x = D at *
  generalize refHashL D = H at *
  have h3 : ∀ (d h : Int) (A : Nat) (W : World), Ta w.heap.size w A [(h, H), (d, D)] 2 W → Calls Tryz.prog 24 #[.pointer (some ⟨A, 0, none⟩), .string (bs g), .int .i64 a, .int .i64 h] W (TaPost w.heap.size w A [(h, H), (d, D)] 4 W (hostL g a H)) := fun d h A W ht => snHost_any ht (by omega) g (by omega) a (.head _)
  generalize hostL g a H = S at *
  have hK1 : ∀ (s h d : Int) (A : Nat) (W : World), Ta w.heap.size w A [(s, S), (h, H), (d, D)] 4 W → Calls Tryz.prog 27 #[.pointer (some ⟨A, 0, none⟩), .int .i64 b] W (TaPost w.heap.size w A [(s, S), (h, H), (d, D)] 5 W (refKeyL b)) := fun s h d A W ht => taKey ht (by omega) b
  have hP1 : ∀ (k s h d : Int) (A : Nat) (W : World), Ta w.heap.size w A [(k, refKeyL b), (s, S), (h, H), (d, D)] 5 W → Calls Tryz.prog 26 #[.pointer (some ⟨A, 0, none⟩), .int .i64 k] W (TaPost w.heap.size w A [(k, refKeyL b), (s, S), (h, H), (d, D)] 6 W (pubL b)) := fun k s h d A W ht => taPub ht (by omega) (.head _)
  have hC1 : ∀ (p k s h d : Int) (A : Nat) (W : World), Ta w.heap.size w A [(p, pubL b), (k, refKeyL b), (s, S), (h, H), (d, D)] 6 W → Calls Tryz.prog 30 #[.pointer (some ⟨A, 0, none⟩), .string (bs g), .int .i64 a, .int .i64 p, .int .i64 s, .int .i64 h] W fun e w' => ∃ v, e = .returned v ∧ ToldAt w' 1 hostS 9 v ∧ Ta w.heap.size w A [(s, S), (h, H), (d, D)] 8 w' ∧ Kept W w' := fun p k s h d A W ht => by
    have h4 := snCheckHost_any ht (by omega) g (by omega) a (kk := p) (ks := s) (kh := h) (.head _) (.tail _ (.tail _ (.head _))) (.tail _ (.tail _ (.tail _ (.head _))))
    rw [E2] at h4
    exact h4.mono fun e w' ⟨v, h5, h6, h7, h8⟩ => ⟨v, h5, h6, h7.mono (Nat.le_refl _) (fun q hq => .tail _ (.tail _ hq)), h8⟩
  have hK2 : ∀ (s h d : Int) (A : Nat) (W : World), Ta w.heap.size w A [(s, S), (h, H), (d, D)] 8 W → Calls Tryz.prog 27 #[.pointer (some ⟨A, 0, none⟩), .int .i64 a] W (TaPost w.heap.size w A [(s, S), (h, H), (d, D)] 9 W (refKeyL a)) := fun s h d A W ht => taKey ht (by omega) a
  have hP2 : ∀ (k s h d : Int) (A : Nat) (W : World), Ta w.heap.size w A [(k, refKeyL a), (s, S), (h, H), (d, D)] 9 W → Calls Tryz.prog 26 #[.pointer (some ⟨A, 0, none⟩), .int .i64 k] W (TaPost w.heap.size w A [(k, refKeyL a), (s, S), (h, H), (d, D)] 10 W (pubL a)) := fun k s h d A W ht => taPub ht (by omega) (.head _)
  have hC2 : ∀ (p k s h d : Int) (A : Nat) (W : World), Ta w.heap.size w A [(p, pubL a), (k, refKeyL a), (s, S), (h, H), (d, D)] 10 W → Calls Tryz.prog 30 #[.pointer (some ⟨A, 0, none⟩), .string (bs g), .int .i64 a, .int .i64 p, .int .i64 s, .int .i64 h] W fun e w' => e = .returned .nilIface ∧ Ta w.heap.size w A [(s, S), (h, H), (d, D)] 12 w' ∧ Kept W w' := fun p k s h d A W ht => by
    have h4 := snCheckHost_any ht (by omega) g (by omega) a (kk := p) (ks := s) (kh := h) (.head _) (.tail _ (.tail _ (.head _))) (.tail _ (.tail _ (.tail _ (.head _))))
    rw [E1] at h4
    refine h4.mono fun e w' ⟨v, h5, h6, h7, h8⟩ => ⟨?_, h7.mono (Nat.le_refl _) (fun q hq => .tail _ (.tail _ hq)), h8⟩
    rcases h6 with ⟨_, rfl⟩ | ⟨h9, _⟩ | ⟨h9, _⟩
    · exact h5
    · exact absurd h9 (by decide)
    · exact absurd h9 (by decide)
  have HT : Hid (∀ (W : World) (v : Value), Below w.heap.size w W → ToldAt W 1 hostS 9 v → Calls Tryz.prog 29 #[v, .int .i64 9, .string ⟨#[104, 111, 115, 116]⟩, .string ⟨#[107, 101, 121]⟩] W fun r w' => r = .returned (.bool true) ∧ Below W.heap.size W w') := fun W v hb hv => by
    have h := told22_any (hg.later hb) hv (by decide)
    rw [show partS 1 = ⟨#[107, 101, 121]⟩ from rfl, show hostS = ⟨#[104, 111, 115, 116]⟩ from rfl] at h
    exact h
  clear E1 E2
  generalize pubL a = PA at *
  generalize pubL b = PB at *
  generalize refKeyL a = KA at *
  generalize refKeyL b = KB at *
  subst ea eb
  rw [ex] at h1
  rw [eg] at h3 hC1 hC2
  have H1 := Lib.hid h1
  have H2 := Lib.hid h2
  have H3 := Lib.hid h3
  have K1 := Lib.hid hK1
  have P1 := Lib.hid hP1
  have C1 := Lib.hid hC1
  have K2 := Lib.hid hK2
  have P2 := Lib.hid hP2
  have C2 := Lib.hid hC2
  clear hg h1 h2 h3 hK1 hP1 hC1 hK2 hP2 hC2 ex eg lx lg
  go_enter Tryz.func22, Tryz.ntmps22
  go_wp2_with (first
    | (go_at_call 12; (with_reducible refine HN.out.mono ?_); rintro e w1 ⟨A, rfl, t1⟩)
    | (go_at_call 58; (with_reducible refine (H1.out _ _ t1).mono ?_); rintro e w2 ⟨d, rfl, t2, _⟩)
    | (go_at_call 39; (with_reducible refine (H2.out _ _ _ t2).mono ?_); rintro e w3 ⟨h, rfl, t3, _⟩)
    | (go_at_call 24; (with_reducible refine (H3.out _ _ _ _ t3).mono ?_); rintro e w4 ⟨s, rfl, t4, _⟩)
    | (go_at_call 27; (with_reducible refine (K1.out _ _ _ _ _ t4).mono ?_); rintro e w5 ⟨k, rfl, t5, _⟩)
    | (go_at_call 26; (with_reducible refine (P1.out _ _ _ _ _ _ t5).mono ?_); rintro e w6 ⟨p, rfl, t6, _⟩)
    | (go_at_call 30; (with_reducible refine (C1.out _ _ _ _ _ _ _ t6).mono ?_); rintro e w7 ⟨v, rfl, f7, t7, _⟩)
    | (go_at_call 27; (with_reducible refine (K2.out _ _ _ _ _ t7).mono ?_); rintro e w8 ⟨k2, rfl, t8, kp8⟩)
    | (go_at_call 26; (with_reducible refine (P2.out _ _ _ _ _ _ t8).mono ?_); rintro e w9 ⟨p2, rfl, t9, kp9⟩)
    | (go_at_call 30; (with_reducible refine (C2.out _ _ _ _ _ _ _ t9).mono ?_); rintro e w10 ⟨rfl, t10, kp10⟩; have f10 := ((f7.kept kp8).kept kp9).kept kp10)
    | (go_at_call 29; (with_reducible refine (HT.out _ _ t10.bel f10).mono ?_); rintro e w11 ⟨rfl, b11⟩; have t11 := t10.below b11)
    | fail)
  go_ret
  exact ⟨rfl, t11.bel⟩
end Go.Proofs.YtbnecckgapainaaGreatDoor
