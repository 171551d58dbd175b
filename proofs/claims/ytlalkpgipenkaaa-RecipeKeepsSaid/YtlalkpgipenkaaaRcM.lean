/- Layer 14: the law RecipeKeeps. -/
import Derived.Test.YtlalkpgipenkaaaRcN
import Derived.Deep.DeepCutAuto
import Derived.Deep.CutRange
namespace Go.Proofs.Ytlalkpgipenkaaa
open Go.RowKit

def hidS (d : ByteArray) : ByteArray := ⟨#[104, 105, 100, 100, 101, 110, 32]⟩ ++ d
theorem rc_u8 (x : Nat) (hx : x ≤ 255) (W : World) : (convert 5 3 (.int .u8 (x : Int))).run Try.prog W = .ok (.int .i64 (x : Int)) W := by
  have h : IntKind.i64.wrap (x : Int) = (x : Int) := IntWalk.i64_in _ (by omega)
  simp [go_sem, Try.underlying5, Try.underlying3, h]

theorem ids_row (W : World) (l : List Int) (cs : Array Value) (hc : cs = (l.map (Value.int .i64)).toArray) (n c : Nat) (hn : l.length = n) : IdsAt (W.alloc (.cells cs 49)) (.slice (some ⟨W.heap.size, 0, none⟩) n c) l := by
  subst hn
  have hO := Holds.new W 49 cs
  refine ⟨_, c, rfl, fun _ => ⟨W.heap.size, 0, rfl, hO.lt, fun k x hk => ?_⟩⟩
  rw [Nat.zero_add, hO.cell k, hc]
  simp [hk]
theorem ids_two (W : World) (a b : Int) : IdsAt (W.alloc (.cells #[.int .i64 a, .int .i64 b] 49)) (.slice (some ⟨W.heap.size, 0, none⟩) 2 2) [a, b] := ids_row W [a, b] _ rfl 2 2 rfl

section
variable {B A n kk : Nat} {w0 W : World} {H x : Int} {hs : ByteArray} {ids : List Int} {L : List Ent}
theorem kpSeal0 (h : Kp B w0 A kk H hs x ids L n W) (hn : n ≤ 1000) (k : Int) (t : Int) (hk : BadZ L k) : Calls Try.prog 31 #[.pointer (some ⟨A, 0, none⟩), .int .i64 k, .int .u32 0, .int .i64 t] W fun r w' => ∃ m : Int × List Ent, r = .returned (.int .i64 m.1) ∧ Kp B w0 A kk H hs x (ids ++ [m.1]) m.2 (n + 1) w' := kpSeal h hn k 0 (by decide) t hk
theorem kpSeal1 (h : Kp B w0 A kk H hs x ids L n W) (hn : n ≤ 1000) (t : Int) : Calls Try.prog 31 #[.pointer (some ⟨A, 0, none⟩), .int .i64 0, .int .u32 1, .int .i64 t] W fun r w' => ∃ m : Int × List Ent, r = .returned (.int .i64 m.1) ∧ Kp B w0 A kk H hs x (ids ++ [m.1]) m.2 (n + 1) w' := kpSeal h hn 0 1 (by decide) t h.k.bad0
theorem kpDeriveA (h : Kp B w0 A kk H hs x ids L n W) (hn : n ≤ 1000) (p q t : Int) : Calls Try.prog 33 #[.pointer (some ⟨A, 0, none⟩), .int .u8 65, .int .i64 p, .int .i64 q, .int .i64 t] W fun r w' => ∃ m : Int × List Ent, r = .returned (.int .i64 m.1) ∧ Kp B w0 A kk H hs x (ids ++ [m.1]) m.2 (n + 1) w' := kpDerive h hn 65 (by decide) p q t
end

set_option maxHeartbeats 4000000 in
set_option maxRecDepth 100000 in
theorem keeps_main {w : World} {x0 x1 x2 : Nat} (hx0 : x0 ≤ 255) (hx1 : x1 ≤ 255) (hx2 : x2 ≤ 255) (d : ByteArray) (hd : d.size ≤ 100) {v : Value} {l : List OpR} (hv : OpsAt w v l) (hcap : ∀ o n c, v = .slice o n c → n ≤ c ∧ c ≤ 9223372036854775807) (hl : l.length ≤ 70) (hs : ∀ o ∈ l, o.s.length ≤ 200) :
    Calls Try.prog 5 #[.agg #[.int .u8 x0, .int .u8 x1, .int .u8 x2], .string d, v] w fun e w' => e = .returned (.bool true) ∧ Below w.heap.size w w' := by
  have HfewT : fewP14 l = true := decide_eq_true ⟨hl, hs⟩
  have b0 : Below w.heap.size w (w.alloc (.cells #[.int .u8 x0, .int .u8 x1, .int .u8 x2] 44)) := (Below.refl _ _).alloc (Nat.le_refl _) _
  have hX := Holds.new w 44 #[.int .u8 x0, .int .u8 x1, .int .u8 x2]
  obtain ⟨W0, hW0⟩ : ∃ W0, Hid (W0 = w.alloc (.cells #[.int .u8 x0, .int .u8 x1, .int .u8 x2] 44)) := ⟨_, Lib.hid rfl⟩
  rw [← hW0.out] at b0 hX
  obtain ⟨X, hXe⟩ : ∃ X, Hid (X = w.heap.size) := ⟨_, Lib.hid rfl⟩
  rw [← hXe.out] at hX
  have hX0 : X < W0.heap.size := hX.lt
  have hv0 := hv.below b0
  have HFw := Lib.hid (few14_any hv0 (fun x hx => by have := hs x hx; omega) (by omega))
  rw [HfewT] at HFw
  obtain ⟨ao, cap, rfl, _⟩ := id hv
  have HOb : Hid (l ≠ [] → ∃ b off, ao = some ⟨b, off, none⟩ ∧ b < w.heap.size) := fun hne => by
    obtain ⟨ao', cap', e1, h⟩ := hv
    injection e1 with e1 e2 e3
    subst e1
    obtain ⟨b', off, e4, h5, _⟩ := h hne
    exact ⟨b', off, e4, h5⟩
  have hcp := hcap ao l.length cap rfl
  clear hcap
  have HN := Lib.hid (New_any W0)
  have q1 : decide ((d.size : Int) > 100) = false := decide_eq_false (by omega)
  have HB0 := Lib.hid b0
  have HV0 := Lib.hid hv0
  have HS := Lib.hid hs
  clear hv hv0 hs HfewT b0
  go_enter Try.func5, Try.ntmps5
  go_wp2_with (first
    | (go_at_call 20; rw [← hW0.out]; (with_reducible refine HFw.out.mono ?_); rintro e w' ⟨rfl, hw⟩; have hw := hw.symm; subst hw)
    | (go_at_call 22; (with_reducible refine HN.out.mono ?_); rintro e w1 ⟨A, F, rfl, ha1, hb1⟩))
  have ar2 : Ar W0.heap.size W0 A [] 0 w1.drew := ⟨⟨F, ha1.below (Below.refl _ _).drew⟩, Good.nil, Nat.le_refl 0, hb1.drew⟩
  have HXk : Hid (∀ W, Below W0.heap.size W0 W → W.cell? ⟨X, 0, none⟩ = some (.int .u8 (x0 : Int)) ∧ W.cell? ⟨X, 1, none⟩ = some (.int .u8 (x1 : Int)) ∧ W.cell? ⟨X, 2, none⟩ = some (.int .u8 (x2 : Int))) := fun W hb => by
    have h : Holds W X 44 #[.int .u8 x0, .int .u8 x1, .int .u8 x2] := (hb.block X hX0).trans hX
    exact ⟨h.cell 0, h.cell 1, h.cell 2⟩
  obtain ⟨y0, y1, y2⟩ := HXk.out _ ar2.bel
  have cv0 := rc_u8 x0 hx0
  have cv1 := rc_u8 x1 hx1
  have cv2 := rc_u8 x2 hx2
  have hK := kpKey ar2 (kk := x0 % 10) (by omega)
  rw [show ((x0 % 10 : Nat) : Int) = (x0 : Int).tmod 10 by rw [Int.tmod_eq_emod_of_nonneg (by omega)]; omega] at hK
  have HK := Lib.hid hK
  have ht1 : 0 ≤ (x1 : Int).tmod 10 := by rw [Int.tmod_eq_emod_of_nonneg (by omega)]; omega
  have ht2 : (x1 : Int).tmod 10 ≤ 9 := by rw [Int.tmod_eq_emod_of_nonneg (by omega)]; omega
  have HWr : Hid (IntKind.i64.wrap (1 + (x1 : Int).tmod 10) = 1 + (x1 : Int).tmod 10) := IntWalk.i64_in _ (by omega)
  have HPos : Hid (0 < 1 + (x1 : Int).tmod 10) := by unfold Hid; omega
  clear hK ht1 ht2
  have Hx0 := Lib.hid hx0
  have Hx1 := Lib.hid hx1
  have Hx2 := Lib.hid hx2
  clear ha1 hb1 ar2 hX HN HFw hx0 hx1 hx2
  rw [← hXe.out]
  go_region_held3 (fun w' => w'.cell? ⟨X, 0, none⟩ = some (.int .u8 (x0 : Int)) ∧ w'.cell? ⟨X, 1, none⟩ = some (.int .u8 (x1 : Int)) ∧ w'.cell? ⟨X, 2, none⟩ = some (.int .u8 (x2 : Int)))
    (first | with_reducible exact ⟨y0, y1, y2⟩ | with_reducible exact ⟨z0, z1, z2⟩ | with_reducible exact ⟨u0, u1, u2⟩ | go_keep)
    (first
      | (go_at_call 24; rw [HWr.out]; with_reducible refine (HN2.out _ _ HPos.out).mono ?_; rintro e W3 ⟨m3, rfl, he3, hb3, ar3⟩; obtain ⟨u0, u1, u2⟩ := HXk.out _ ar3.bel; have AR3 := Lib.hid ar3; have HE3 := Lib.hid he3; have HB3 := Lib.hid hb3; clear ar3 he3 hb3)
      | (go_at_call 23; with_reducible refine HK.out.mono ?_; rintro e w2 ⟨ke, rfl, hke, ar2⟩; obtain ⟨z0, z1, z2⟩ := HXk.out _ ar2.bel; have HN2 := Lib.hid (fun a b => kpNonce ar2 hke a b); have HKe := Lib.hid hke; clear ar2 hke))
  all_goals
    obtain ⟨S, hSe⟩ : ∃ S, Hid (S = (⟨#[104, 105, 100, 100, 101, 110, 32]⟩ : ByteArray) ++ d) := ⟨_, Lib.hid rfl⟩
    have HSz : Hid (S.size ≤ 1000000) := by unfold Hid; rw [hSe.out, ByteArray.size_append]; show 7 + d.size ≤ _; omega
    have HSn : Hid (d ≠ S) := fun e => by
      have h2 := congrArg ByteArray.size hSe.out
      rw [← e, ByteArray.size_append] at h2
      have : (⟨#[104, 105, 100, 100, 101, 110, 32]⟩ : ByteArray).size = 7 := rfl
      omega
    have HDs : Hid (d.size ≤ 1000000) := by unfold Hid; omega
    clear HN2 HK HXk
    go_wp2_with (first
      | (go_at_call 25; rw [← hSe.out]; with_reducible refine (kpHid AR3.out HE3.out HKe.out HB3.out S HSz.out).mono ?_; rintro e w4 ⟨m4, rfl, k4⟩; have K4 := Lib.hid k4; clear k4 AR3)
      | (go_at_call 27; with_reducible refine (kpBase K4.out (by decide) _ (by decide)).mono ?_; rintro e w5 ⟨m5, rfl, k5⟩; have K5 := Lib.hid k5; clear k5 K4)
      | (go_at_call 26; with_reducible refine (kpExp K5.out (by decide) _ _).mono ?_; rintro e w6 ⟨m6, rfl, k6⟩; have K6 := Lib.hid k6; clear k6 K5)
      | (go_at_call 28; with_reducible refine (kpPub K6.out (by decide) _).mono ?_; rintro e w7 ⟨m7, rfl, k7⟩; have K7 := Lib.hid k7; clear k7 K6)
      | (go_at_call 25; with_reducible refine (kpData0 K7.out (by decide) d HDs.out).mono ?_; rintro e w8 ⟨m8, rfl, k8⟩; have K8 := Lib.hid k8; clear k8 K7)
      | (go_at_call 29; with_reducible refine (kpSign K8.out (by decide) _ (by decide) _ _).mono ?_; rintro e w9 ⟨m9, rfl, k9⟩; have K9 := Lib.hid k9; clear k9 K8)
      | (go_at_call 30; with_reducible refine (kpHash K9.out (by decide) _).mono ?_; rintro e w10 ⟨m10, rfl, k10⟩; have K10 := Lib.hid k10; clear k10 K9)
      | (go_at_call 30; with_reducible refine (kpHash K10.out (by decide) _).mono ?_; rintro e w11 ⟨m11, rfl, k11⟩; have K11 := Lib.hid k11; clear k11 K10)
      | (go_at_call 31; with_reducible refine (kpSeal0 K11.out (by decide) _ _ K11.out.k.non).mono ?_; rintro e w12 ⟨m12, rfl, k12⟩; have K12 := Lib.hid k12; clear k12 K11)
      | (go_at_call 32; with_reducible refine (kpList (K12.out.below ((Below.refl _ _).alloc (Nat.le_refl _) _)) (by decide) (ids_two w12 _ _) (by simp)).mono ?_; rintro e w13 ⟨m13, rfl, k13⟩; have K13 := Lib.hid k13; clear k13 K12)
      | (go_at_call 31; with_reducible refine (kpSeal1 K13.out (by decide) _).mono ?_; rintro e w14 ⟨m14, rfl, k14⟩; have K14 := Lib.hid k14; clear k14 K13)
      | (go_at_call 25; with_reducible refine (kpData K14.out (by decide) d HDs.out HSn.out).mono ?_; rintro e w15 ⟨m15, rfl, k15⟩; have K15 := Lib.hid k15; clear k15 K14)
      | (go_at_call 33; with_reducible refine (kpDeriveA K15.out (by decide) _ _ _).mono ?_; rintro e w16 ⟨m16, rfl, k16⟩; have K16 := Lib.hid k16; clear k16 K15))
    have hkn := ids_row w16 [m7.1, m6.1, m9.1, m10.1, m11.1, m12.1, m14.1, m15.1, m16.1] _ rfl 9 9 rfl
    have HKs : Hid (∀ z ∈ [m7.1, m6.1, m9.1, m10.1, m11.1, m12.1, m14.1, m15.1, m16.1], SafeZ m4.1 False m16.2 z) := fun z hz => K16.out.k.ids z (by
      simp only [List.mem_append, List.mem_cons, List.not_mem_nil, or_false, false_or] at hz ⊢
      rcases hz with rfl | rfl | rfl | rfl | rfl | rfl | rfl | rfl | rfl <;> simp)
    obtain ⟨F16, ha16⟩ := K16.out.a.ar
    have hN16 : ¬ F16 w16.heap.size := fun h => Nat.lt_irrefl _ (ha16.lt _ h).2
    have hb17 : Below w16.heap.size w16 (w16.alloc (.cells #[.int .i64 m7.1, .int .i64 m6.1, .int .i64 m9.1, .int .i64 m10.1, .int .i64 m11.1, .int .i64 m12.1, .int .i64 m14.1, .int .i64 m15.1, .int .i64 m16.1] 49)) := (Below.refl _ _).alloc (Nat.le_refl _) _
    have ha17 := ha16.below hb17
    have hk17 := K16.out.below hb17
    have hN17 : w16.heap.size < (w16.alloc (.cells #[.int .i64 m7.1, .int .i64 m6.1, .int .i64 m9.1, .int .i64 m10.1, .int .i64 m11.1, .int .i64 m12.1, .int .i64 m14.1, .int .i64 m15.1, .int .i64 m16.1] 49)).heap.size := by simp
    obtain ⟨N, hNe⟩ : ∃ N, N = w16.heap.size := ⟨_, rfl⟩
    obtain ⟨W7, hW7⟩ : ∃ W7, W7 = w16.alloc (.cells #[.int .i64 m7.1, .int .i64 m6.1, .int .i64 m9.1, .int .i64 m10.1, .int .i64 m11.1, .int .i64 m12.1, .int .i64 m14.1, .int .i64 m15.1, .int .i64 m16.1] 49) := ⟨_, rfl⟩
    rw [← hNe] at hN16 hN17
    simp only [List.map_cons, List.map_nil] at hkn
    rw [← hW7] at hN17 ha17 hk17 hkn
    rw [← hNe] at hkn
    rw [← hW7, ← hNe]
    have hg16 := K16.out.a.good
    have hl16 := K16.out.a.len
    have hv7 := HV0.out.below hk17.a.bel
    have HA17 := Lib.hid ha17
    have HK17 := Lib.hid hk17
    have HKn := Lib.hid hkn
    have HV7 := Lib.hid hv7
    have HN17 := Lib.hid (And.intro hN17 hN16)
    clear K16 ha16 hb17 ha17 hk17 hkn hv7 hW7 hNe hN16 hN17 y0 y1 y2 cv0 cv1 cv2
    go_loopw [13] (fun i wr => ∃ k : Nat, k ≤ l.length ∧ i = .int .i64 (k : Int) ∧ (∀ o ∈ l.take k, o.kind = 0 → bs o.s ≠ S) ∧ wr = W7) (fun i _ => l.length - (intOf i).toNat)
    case atStart => exact ⟨0, Nat.zero_le _, rfl, by simp, rfl⟩
    case round =>
      obtain ⟨k, hk, rfl, hall, rfl⟩ := hrel
      have HAll := Lib.hid hall
      clear hall
      by_cases hlt : k < l.length
      · obtain ⟨ao', cap', eao, hc⟩ := id HV7.out
        injection eao with e1 e2 e3
        subst e1
        obtain ⟨b, off, rfl, hb, hcell⟩ := hc (by intro h; simp [h] at hlt)
        obtain ⟨x, hx⟩ : ∃ x, x = l[k] := ⟨_, rfl⟩
        have c0 := (hcell k x (by simp [hlt, hx])).1
        have c4 := (hcell k x (by simp [hlt, hx])).2.2.2.2
        have q1 : decide ((k : Int) < (l.length : Int)) = true := decide_eq_true (by omega)
        have HNx : Hid ((x.kind = 0 → bs x.s ≠ S) → ∀ o ∈ l.take (k + 1), o.kind = 0 → bs o.s ≠ S) := fun hn o ho => by
          rw [List.take_succ_eq_append_getElem hlt, List.mem_append] at ho
          rcases ho with ho | ho
          · exact HAll.out o ho
          · simp at ho
            rw [ho, ← hx]
            exact hn
        clear hcell hc e2 e3 hx
        by_cases h0 : x.kind = 0
        · rw [h0] at c0
          by_cases h1 : bs x.s = S
          · have q3 : ((bs x.s).toList == ((⟨#[104, 105, 100, 100, 101, 110, 32]⟩ : ByteArray) ++ d).toList) = true := by rw [← hSe.out, h1]; simp
            clear HNx h0 h1
            go_wp2_with (go_at_call 21; (with_reducible refine (awake14_any _).mono ?_); rintro e w20 ⟨rfl, b20⟩)
            go_ret
            exact ⟨rfl, (HB0.out.trans (HK17.out.a.bel.mono HB0.out.size)).trans (b20.mono (Nat.le_trans HB0.out.size HK17.out.a.bel.size))⟩
          · have q3 : ((bs x.s).toList == ((⟨#[104, 105, 100, 100, 101, 110, 32]⟩ : ByteArray) ++ d).toList) = false := by
              rw [← hSe.out, beq_eq_false_iff_ne]
              intro e
              rw [ByteArray.toList_eq, ByteArray.toList_eq] at e
              exact h1 (ByteArray.ext (Array.ext' e))
            have HN1 := Lib.hid (HNx.out fun _ => h1)
            clear HNx h0 h1
            go_wp2_with fail
            go_roundw
            case rel => exact ⟨k + 1, by omega, by go_num, HN1.out, trivial⟩
            case measure => simp [intOf]; omega
        · have q2 : (x.kind == 0) = false := by simpa using h0
          have HN1 := Lib.hid (HNx.out fun h => absurd h h0)
          clear HNx h0
          go_wp2_with fail
          go_roundw
          case rel => exact ⟨k + 1, by omega, by go_num, HN1.out, trivial⟩
          case measure => simp [intOf]; omega
      · have hke : k = l.length := by omega
        subst hke
        have hdl := HAll.out
        rw [List.take_length] at hdl
        have q1 : decide ((l.length : Int) < (l.length : Int)) = false := decide_eq_false (by omega)
        have HAl := Lib.hid (keepsAll HK17.out (by decide) HA17.out HKn.out (fun k hk => by
          have : N = k := by simpa [Value.ownBlock] using hk
          rw [← this]
          exact HN17.out) HKs.out HV7.out (fun hne k hk => by
            obtain ⟨b, off, rfl, h2⟩ := HOb.out hne
            have e : b = k := by simpa [Value.ownBlock] using hk
            intro hF
            have h1 := (HA17.out.lt k hF).1
            have h3 := HB0.out.size
            omega) hl HS.out hdl)
        clear HAll hdl
        go_wp2_with (go_at_call 34; (with_reducible refine HAl.out.mono ?_); rintro e w8 ⟨L8, rs, vr, F8, ke8, rfl, hid8, hrl8, har8, hG8, hk8, hs8, hb8, hsf8⟩; obtain ⟨ar, cr, rfl, hid9⟩ := hid8; have HI8 := Lib.hid hid9; have HA8 := Lib.hid har8; have HG8 := Lib.hid hG8; have HE8 := Lib.hid hk8; have HS8 := Lib.hid hs8; have HB8 := Lib.hid hb8; have HF8 := Lib.hid hsf8; clear hid9 har8 hG8 hk8 hs8 hb8 hsf8)
        clear HAl
        go_loopw [15] (fun i wx => ∃ k : Nat, k ≤ rs.length ∧ i = .int .i64 (k : Int) ∧ Below w8.heap.size w8 wx) (fun i _ => rs.length - (intOf i).toNat)
        case atStart => exact ⟨0, Nat.zero_le _, rfl, Below.refl _ _⟩
        case round =>
          obtain ⟨k, hk, rfl, hb9⟩ := hrel
          by_cases hlt : k < rs.length
          · obtain ⟨b, off, rfl, hb, hcell⟩ := HI8.out (by intro h; simp [h] at hlt)
            obtain ⟨z, hz⟩ : ∃ z, rs[k]? = some z := ⟨_, List.getElem?_eq_getElem hlt⟩
            have HR0 : Hid (∀ W, Below w8.heap.size w8 W → W.cell? ⟨b, off + k, none⟩ = some (.int .i64 z)) := fun W h => (h.cell (p := ⟨b, off + k, none⟩) hb).trans (hcell k z hz)
            have r0 := HR0.out _ hb9
            have hsz := HF8.out k z hz
            have q1 : decide ((k : Int) < (rs.length : Int)) = true := decide_eq_true (by omega)
            have HB9 := Lib.hid hb9
            have ha9 := HA8.out.below hb9
            clear hcell hz hb9
            rcases hsz with rfl | ⟨i, rfl, hsz⟩
            · have HV := Lib.hid (viewNo ha9)
              clear ha9
              go_wp2_with (go_at_call 35; (with_reducible refine HV.out.mono ?_); rintro e w10 ⟨rfl, b10⟩; have HB10 := Lib.hid (HB9.out.trans (b10.mono HB9.out.size)); clear b10)
              go_roundw
              case rel => exact ⟨k + 1, by omega, by go_num, HB10.out.alloc HB10.out.size _⟩
              case measure => simp [intOf]; omega
            · obtain ⟨K, a, b', s, n, hK3, hK2, hH, hK5, hV⟩ := viewYes ha9 hsz
              have HV := Lib.hid hV
              have HG := Lib.hid hK5
              have qh : ((i : Int) == m4.1) = false := by simpa using hH
              clear ha9 hsz hV hK5 hH
              by_cases hk2 : K = 2
              · obtain rfl := hK2 hk2
                subst hk2
                clear hK3 hK2 HG
                go_wp2_with (go_at_call 35; (with_reducible refine HV.out.mono ?_); rintro e w10 ⟨g, rfl, b10⟩; have HB10 := Lib.hid (HB9.out.trans (b10.mono HB9.out.size)); obtain ⟨n0, n1, n3, n4⟩ := node_cells w10 2 0 b' s (some ⟨g, 0, none⟩) n n; have r1 := HR0.out _ (HB10.out.alloc HB10.out.size (.cells #[.int .i64 2, .int .i64 0, .int .i64 b', .string s, .slice (some ⟨g, 0, none⟩) n n] 65)); clear b10)
                go_roundw
                case rel => exact ⟨k + 1, by omega, by go_num, HB10.out.alloc HB10.out.size _⟩
                case measure => simp [intOf]; omega
              · have qk2 : (K == 2) = false := by simpa using hk2
                by_cases hk5 : K = 5
                · subst hk5
                  clear hK3 hK2 hk2 qk2
                  by_cases hs5 : s = p256S
                  · subst hs5
                    have qs : (p256S.toList == [112, 50, 53, 54]) = true := by rw [ByteArray.toList_eq]; rfl
                    by_cases hn : n = 0
                    · have HBd := Lib.hid (HG.out rfl rfl hn)
                      subst hn
                      clear HG
                      have hle : k + 1 ≤ l.length := by omega
                      have hkc : k + 1 ≤ cap := by omega
                      have HBW : Hid (∀ W, Below w8.heap.size w8 W → Below W0.heap.size W0 W) := fun W hW => (HK17.out.a.bel.trans HB8.out).trans (hW.mono (HK17.out.a.bel.trans HB8.out).size)
                      have HBas := Lib.hid (fun (W : World) (hW : Below W0.heap.size W0 W) => based14_any ((HV0.out.below hW).take (k + 1) hle cap) (by rw [List.length_take]; omega) HBd.out)
                      go_wp2_with (first
                        | (go_at_call 35; (with_reducible refine HV.out.mono ?_); rintro e w10 ⟨g, rfl, b10⟩; have HB10 := Lib.hid (HB9.out.trans (b10.mono HB9.out.size)); obtain ⟨n0, n1, n3, n4⟩ := node_cells w10 5 a b' p256S (some ⟨g, 0, none⟩) 0 0; have r1 := HR0.out _ (HB10.out.alloc HB10.out.size (.cells #[.int .i64 5, .int .i64 a, .int .i64 b', .string p256S, .slice (some ⟨g, 0, none⟩) 0 0] 65)); have HBT := Lib.hid (HBW.out _ (HB10.out.alloc HB10.out.size (.cells #[.int .i64 5, .int .i64 a, .int .i64 b', .string p256S, .slice (some ⟨g, 0, none⟩) 0 0] 65))); clear b10)
                        | (go_at_call 36; (with_reducible refine (HBas.out _ HBT.out).mono ?_); rintro e w11 ⟨rfl, hw⟩; have hw := hw.symm; subst hw))
                      go_roundw
                      case rel => exact ⟨k + 1, by omega, by go_num, HB10.out.alloc HB10.out.size _⟩
                      case measure => simp [intOf]; omega
                    · have qn : ((n : Int) == 0) = false := by simp; omega
                      clear HG hn
                      generalize p256S = s at *
                      go_wp2_with (go_at_call 35; (with_reducible refine HV.out.mono ?_); rintro e w10 ⟨g, rfl, b10⟩; have HB10 := Lib.hid (HB9.out.trans (b10.mono HB9.out.size)); obtain ⟨n0, n1, n3, n4⟩ := node_cells w10 5 a b' s (some ⟨g, 0, none⟩) n n; have r1 := HR0.out _ (HB10.out.alloc HB10.out.size (.cells #[.int .i64 5, .int .i64 a, .int .i64 b', .string s, .slice (some ⟨g, 0, none⟩) n n] 65)); clear b10)
                      go_roundw
                      case rel => exact ⟨k + 1, by omega, by go_num, HB10.out.alloc HB10.out.size _⟩
                      case measure => simp [intOf]; omega
                  · have qs : (s.toList == [112, 50, 53, 54]) = false := by
                      rw [beq_eq_false_iff_ne]
                      intro e
                      rw [ByteArray.toList_eq] at e
                      exact hs5 (ByteArray.ext (Array.ext' e))
                    clear HG hs5
                    go_wp2_with (go_at_call 35; (with_reducible refine HV.out.mono ?_); rintro e w10 ⟨g, rfl, b10⟩; have HB10 := Lib.hid (HB9.out.trans (b10.mono HB9.out.size)); obtain ⟨n0, n1, n3, n4⟩ := node_cells w10 5 a b' s (some ⟨g, 0, none⟩) n n; have r1 := HR0.out _ (HB10.out.alloc HB10.out.size (.cells #[.int .i64 5, .int .i64 a, .int .i64 b', .string s, .slice (some ⟨g, 0, none⟩) n n] 65)); clear b10)
                    go_roundw
                    case rel => exact ⟨k + 1, by omega, by go_num, HB10.out.alloc HB10.out.size _⟩
                    case measure => simp [intOf]; omega
                · have qk5 : (K == 5) = false := by simpa using hk5
                  have qk3 : (K == 3) = false := by simpa using hK3
                  clear HG hk5 hk2 hK3 hK2
                  go_wp2_with (go_at_call 35; (with_reducible refine HV.out.mono ?_); rintro e w10 ⟨g, rfl, b10⟩; have HB10 := Lib.hid (HB9.out.trans (b10.mono HB9.out.size)); obtain ⟨n0, n1, n3, n4⟩ := node_cells w10 K a b' s (some ⟨g, 0, none⟩) n n; have r1 := HR0.out _ (HB10.out.alloc HB10.out.size (.cells #[.int .i64 K, .int .i64 a, .int .i64 b', .string s, .slice (some ⟨g, 0, none⟩) n n] 65)); clear b10)
                  go_roundw
                  case rel => exact ⟨k + 1, by omega, by go_num, HB10.out.alloc HB10.out.size _⟩
                  case measure => simp [intOf]; omega
          · have hke : k = rs.length := by omega
            subst hke
            have q1 : decide ((rs.length : Int) < (rs.length : Int)) = false := decide_eq_false (by omega)
            have HB9 := Lib.hid hb9
            have HKd : Hid (∀ W, Calls Try.prog 37 #[.string (bs (enc L8 0))] W fun e w' => e = .returned (.int .i64 3) ∧ w' = W) := fun W => by
              have h := refKind_any (enc L8 0) W
              rw [(key_code HE8.out HS8.out).1] at h
              exact h
            clear hb9
            go_wp2_with (first
              | (go_at_call 21; (with_reducible refine (awake14_any _).mono ?_); rintro e w12 ⟨rfl, b12⟩; have HB12 := Lib.hid (HB9.out.trans (b12.mono HB9.out.size)); clear b12)
              | (go_at_call 38; (with_reducible refine (kpCode (HA8.out.below HB12.out) HG8.out HE8.out HS8.out).mono ?_); rintro e w13 ⟨rfl, b13⟩; have HB13 := Lib.hid (HB12.out.trans (b13.mono HB12.out.size)); clear b13)
              | (go_at_call 37; (with_reducible refine (HKd.out _).mono ?_); rintro e w14 ⟨rfl, hw⟩; have hw := hw.symm; subst hw))
            go_ret
            have h8 := HK17.out.a.bel.trans HB8.out
            exact ⟨rfl, HB0.out.trans ((h8.trans (HB13.out.mono h8.size)).mono HB0.out.size)⟩
end Go.Proofs.Ytlalkpgipenkaaa
