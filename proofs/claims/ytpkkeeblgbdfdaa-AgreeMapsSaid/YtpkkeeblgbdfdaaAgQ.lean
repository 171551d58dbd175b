/- Layer 32: the walk of AgreeMaps. -/
import Derived.Test.YtpkkeeblgbdfdaaAgQ0
import Derived.Test.YtpkkeeblgbdfdaaAgQb
import Derived.Test.YtpkkeeblgbdfdaaAgN
import Derived.Test.YtpkkeeblgbdfdaaAgF
namespace Go.Proofs.Ytpkkeeblgbdfdaa
open Go.RowKit

set_option maxHeartbeats 16000000 in
set_option maxRecDepth 100000 in
theorem AgreeMaps_any {w : World} {v : Value} {l : List EvV} (h : EventsAt w v l) (ho : ∀ x ∈ l, ∀ u ∈ x.row.toList, CellOk u) (hc : ∀ ao cap, v = .slice ao l.length cap → l.length ≤ cap) :
    Calls Try.prog 3 #[v] w fun e w' => e = .returned (.bool true) ∧ Below w.heap.size w w' := by
  have hE := EvsAt.of h hc
  have HAw : Hid (∀ W, Calls Try.prog 5 #[] W fun e w' => e = .returned (.bool true) ∧ Below W.heap.size W w') := fun W => awake32_any W
  by_cases hlen : l.length ≤ 40
  case neg =>
    obtain ⟨ao, cap, rfl, _⟩ := h
    have q : decide ((l.length : Int) > 40) = true := decide_eq_true (by omega)
    clear hE ho hc
    go_enter Try.func3, Try.ntmps3
    go_wp2_with (first | (go_at_call 5; (with_reducible refine (HAw.out _).mono ?_); rintro e w1 ⟨rfl, b1⟩; have B1 := Lib.hid b1; clear b1))
    go_ret
    exact ⟨rfl, B1.out⟩
  have q : decide ((l.length : Int) > 40) = false := decide_eq_false (by omega)
  by_cases hw : (wrongW (SA l) l).size = 0
  case neg =>
    have HC : Hid (Calls Try.prog 4 #[v] w fun e w' => ∃ t u, e = .returned (.iface t u) ∧ Below w.heap.size w w') := (agCheck_bad h (by omega) ho hw).mono fun e w' ⟨t, u, h1, _, h2⟩ => ⟨t, u, h1, h2⟩
    obtain ⟨ao, cap, rfl, _⟩ := h
    clear hE ho hc hw
    go_enter Try.func3, Try.ntmps3
    go_wp2_with (first
      | (go_at_call 4; (with_reducible refine HC.out.mono ?_); rintro e w1 ⟨t1, u1, rfl, b1⟩; have B1 := Lib.hid b1; clear b1)
      | (go_at_call 5; (with_reducible refine (HAw.out _).mono ?_); rintro e w2 ⟨rfl, b2⟩; have B2 := Lib.hid (B1.out.trans (b2.mono B1.out.size)); clear b2))
    go_ret
    exact ⟨rfl, B2.out⟩
  have hall := all_zero hw
  have HC : Hid (Calls Try.prog 4 #[v] w fun e w' => e = .returned .nilIface ∧ Below w.heap.size w w') := agCheck_ok h (by omega) ho hw
  have HSo : Hid (∀ W (k : Nat), k < l.length → Below w.heap.size w W → Calls Try.prog 7 #[v, .int .i64 (k : Int)] W fun e w' => e = .returned (.tuple #[.int .i64 (((srcK l k).getD 0 : Nat) : Int), .bool (srcK l k).isSome]) ∧ Below W.heap.size W w') := fun W k hk hb => by
    have := agSource_any (hE.below hb) (by omega) ho (k : Int)
    have e1 : srcI l (k : Int) = srcK l k := by unfold srcI existsB; rw [decide_eq_true (by omega), decide_eq_true (by omega), Int.toNat_natCast]; rfl
    rw [e1] at this
    exact this
  have HAh : Hid (∀ W who (k : Nat), Below w.heap.size w W → Calls Try.prog 6 #[v, .int .i64 who, .int .i64 (k : Int)] W fun e w' => e = .returned (.bool (aheadB l who (k : Int))) ∧ w' = W) := fun W who k hb => ahead_any (h.below hb) (by unfold maxLen; omega) who k
  have HMp : Hid (∀ k (hk : k < l.length), ((l[k]).ki = 2 ∨ (l[k]).ki = 4) → aheadB l (l[k]).wh (k : Int) = false → ∃ (s : Nat) (hs : s < k), srcK l k = some s ∧ askK (SA l) l k = true ∧ srcB l[k] (l[s]'(by omega)) = true ∧ usdK (SA l) l k (s : Int) = false) := fun k hk hki ha => maps_src hk hall hki ha
  obtain ⟨ao, cap, rfl, hh⟩ := h
  have HCl : Hid (l ≠ [] → ∃ b off, ao = some ⟨b, off, none⟩ ∧ Hid (∀ W, Below w.heap.size w W → ∀ k (hk : k < l.length), W.cell? ⟨b, off + k * 34, none⟩ = some (.int .i64 (l[k]).ki) ∧ W.cell? ⟨b, off + k * 34 + 3, none⟩ = some (.int .i64 (l[k]).wh) ∧ W.cell? ⟨b, off + k * 34 + 7, none⟩ = some (.int .i64 (l[k]).sid) ∧ Hid (∀ j u, (l[k]).dn.row.toArray[j]? = some u → W.cell? ((⟨b, off + k * 34 + 8, none⟩ : Addr).add j) = some u))) := fun hne => by
    obtain ⟨b, off, e, hb, hcell⟩ := hh hne
    have hg : ∀ W, Below w.heap.size w W → ∀ k (hk : k < l.length), ∀ j u, (l[k]).row[j]? = some u → W.cell? ⟨b, off + k * 34 + j, none⟩ = some u := fun W hw k hk j u hj => (hw.cell (p := ⟨b, off + k * 34 + j, none⟩) hb).trans (hcell k _ (List.getElem?_eq_getElem hk) j u hj)
    refine ⟨b, off, e, Lib.hid fun W hw k hk => ⟨hg W hw k hk 0 _ (EvV.row_ki _), hg W hw k hk 3 _ (EvV.row_wh _), hg W hw k hk 7 _ rfl, Lib.hid fun j u hj => ?_⟩⟩
    rw [Addr.add_lit, Nat.add_assoc]
    exact hg W hw k hk (8 + j) u (row_dn32 _ j u hj)
  have HEa : Hid (∀ (d e : DoV) (W : World), (Op.equalIn 10000 35 (.agg d.row.toArray) (.agg e.row.toArray)).run Try.prog W = .ok (decide (d = e)) W) := fun d e => doneEq31 d e
  have HDs : Hid (∀ d : DoV, d.row.toArray.size = 26) := fun d => rfl
  clear hE ho hc hw hall hh
  go_enter Try.func3, Try.ntmps3
  go_wp2_with (first
    | (go_at_call 4; (with_reducible refine HC.out.mono ?_); rintro e w1 ⟨rfl, b1⟩; have B1 := Lib.hid b1; clear b1))
  clear HC
  go_loopw [3] (fun i wr => ∃ k : Nat, k ≤ l.length ∧ i = .int .i64 k ∧ Hid (Below w.heap.size w wr)) (fun i _ => l.length - (intOf i).toNat)
  case atStart => exact ⟨0, Nat.zero_le _, rfl, B1⟩
  case round =>
    obtain ⟨k, hk, rfl, HB⟩ := hrel
    clear B1
    by_cases hlt : k < l.length
    case neg =>
      have hkl : k = l.length := by omega
      subst hkl
      clear HSo HAh HMp HCl hlt
      go_wp2_with (first | (go_at_call 5; (with_reducible refine (HAw.out _).mono ?_); rintro e w2 ⟨rfl, b2⟩; have B2 := Lib.hid (HB.out.trans (b2.mono HB.out.size)); clear b2))
      go_ret
      exact ⟨rfl, B2.out⟩
    obtain ⟨b, off, rfl, HCe⟩ := HCl.out (by rintro rfl; simp at hlt)
    clear HCl
    have hki : (k : Int) < (l.length : Int) := by omega
    obtain ⟨x0, x3, x7, x8⟩ := HCe.out wr HB.out k hlt
    have HX8 := Lib.hid x8.out
    have HA1 := Lib.hid (HAh.out wr (l[k]).wh k HB.out)
    clear x8
    by_cases hkk : (l[k]).ki = 2 ∨ (l[k]).ki = 4
    case neg =>
      have e2 : ((l[k]).ki != 2) = true := by rw [bne, beq_eq_false_iff_ne.2 fun e => hkk (.inl e)]; rfl
      have e4 : ((l[k]).ki != 4) = true := by rw [bne, beq_eq_false_iff_ne.2 fun e => hkk (.inr e)]; rfl
      clear HSo HAh HMp HA1 hkk HCe
      generalize (l[k]).ki = ki at *
      go_wp2_with fail
      go_roundw
      case rel => exact ⟨k + 1, by omega, by go_num, HB⟩
      case measure => simp [intOf]; omega
    by_cases hah : aheadB l (l[k]).wh (k : Int) = true
    case pos =>
      rw [hah] at HA1
      clear HSo HAh HMp hah HCe
      rcases hkk with e | e
      all_goals
        rw [e] at x0
        go_wp2_with (first | (go_at_call 6; (with_reducible refine HA1.out.mono ?_); rintro e w2 ⟨rfl, hw2⟩; have hw2 := hw2.symm; subst hw2))
        go_roundw
        case rel => exact ⟨k + 1, by omega, by go_num, HB⟩
        case measure => simp [intOf]; omega
    have hah : aheadB l (l[k]).wh (k : Int) = false := by simpa using hah
    rw [hah] at HA1
    obtain ⟨s, hs, hsk, hask, hsb, hus⟩ := HMp.out k hlt hkk hah
    have hsl : (s : Int) < (l.length : Int) := by omega
    have HS1 := Lib.hid (HSo.out wr k hlt HB.out)
    rw [hsk] at HS1
    have HS1 : Hid (Calls Try.prog 7 #[.slice (some ⟨b, off, none⟩) l.length cap, .int .i64 (k : Int)] wr fun e w' => e = .returned (.tuple #[.int .i64 (s : Int), .bool true]) ∧ Below wr.heap.size wr w') := HS1
    have HIn : Hid (∀ W (j : Nat) (hj : j < k), Below w.heap.size w W → (l[j]'(by omega)).ki = (l[k]).ki → aheadB l (l[j]'(by omega)).wh (j : Int) = false → ∃ t : Nat, ((t : Int) == (s : Int)) = false ∧ Calls Try.prog 7 #[.slice (some ⟨b, off, none⟩) l.length cap, .int .i64 (j : Int)] W fun e w' => e = .returned (.tuple #[.int .i64 (t : Int), .bool true]) ∧ Below W.heap.size W w') := fun W j hj hb e1 e2 => by
      obtain ⟨t, ht, htk, hta, _, _⟩ := HMp.out j (by omega) (by rw [e1]; exact hkk) e2
      have := HSo.out W j (by omega) hb
      rw [htk] at this
      exact ⟨t, by rw [beq_eq_false_iff_ne]; exact usd_no hus j hj hta t htk, this⟩
    clear HSo HMp hus hask hsk
    have q1 : decide ((s : Int) < 0) = false := decide_eq_false (by omega)
    have q2 : decide ((s : Int) ≥ (k : Int)) = false := decide_eq_false (by omega)
    have q2n : decide (k ≤ s) = false := decide_eq_false (by omega)
    have q2i : decide ((k : Int) ≤ (s : Int)) = false := decide_eq_false (by omega)
    clear hah
    rcases hkk with e | e
    · have edn := (src_two hsb e).2
      have ewh := (src_two hsb e).1
      have HKi := Lib.hid e
      clear hsb
      rw [e] at x0
      go_upto_region 8 with (first
        | (go_at_call 6; (with_reducible refine HA1.out.mono ?_); rintro e w2 ⟨rfl, hw2⟩; have hw2 := hw2.symm; subst hw2)
        | (go_at_call 7; (with_reducible refine HS1.out.mono ?_); rintro e w7 ⟨rfl, b7⟩; have HB7 := Lib.hid (HB.out.trans (b7.mono HB.out.size)); clear b7))
      obtain ⟨k0, k3, k7, k8⟩ := HCe.out w7 HB7.out k hlt
      obtain ⟨s0, s3, s7, s8⟩ := HCe.out w7 HB7.out s (by omega)
      rw [e] at k0
      rw [ewh] at s3
      clear x0 x3 x7 HX8 HA1 HS1 HB s0
      go_cut [119] (fun u wx => u = .bool false ∧ Hid (Below w.heap.size w wx))
      case first =>
        rename_i J K' hJ hK'
        rw [edn] at s8
        exact agm8_2 hlen hlt hs k0 k3 s3 k7 s7 (Lib.hid s8.out) (Lib.hid k8.out) HB7 (by kernel_rfl) (fun a' w' h => hK' a' w' (Met.intro (hJ a' w' h)))
      case rest =>
        obtain ⟨rfl, HB8⟩ := hcut
        clear k0 k3 k7 k8 s3 s7 s8 HB7 HEa HDs e ewh edn
        go_wp2_with fail
        go_loopw [6] (fun i wx => ∃ j : Nat, j ≤ k ∧ i = .int .i64 j ∧ Hid (Below w.heap.size w wx)) (fun i _ => k - (intOf i).toNat)
        case atStart => exact ⟨0, Nat.zero_le _, rfl, HB8⟩
        case round =>
          obtain ⟨j, hj, rfl, HBj⟩ := hrel
          clear HB8
          by_cases hjk : j < k
          case neg =>
            have hjk2 : j = k := by omega
            subst hjk2
            clear HIn hjk
            have q9 : decide ((j : Int) < (j : Int)) = false := decide_eq_false (by omega)
            go_wp2_with fail
            go_roundw
            case rel => exact ⟨j + 1, by omega, by go_num, HBj⟩
            case measure => simp [intOf]; omega
          have q9 : decide ((j : Int) < (k : Int)) = true := decide_eq_true (by omega)
          have hjl : (j : Int) < (l.length : Int) := by omega
          have hjl2 : j < l.length := by omega
          obtain ⟨j0, j3, _, _⟩ := HCe.out wr HBj.out j hjl2
          obtain ⟨k0, _, _, _⟩ := HCe.out wr HBj.out k hlt
          have HAj := Lib.hid (fun W hb => HAh.out W (l[j]).wh j hb)
          have HCj : Hid (∀ W, Below w.heap.size w W → W.cell? ⟨b, off + j * 34, none⟩ = some (.int .i64 (l[j]).ki) ∧ W.cell? ⟨b, off + j * 34 + 3, none⟩ = some (.int .i64 (l[j]).wh) ∧ W.cell? ⟨b, off + k * 34, none⟩ = some (.int .i64 (l[k]).ki)) := fun W hb => ⟨(HCe.out W hb j hjl2).1, (HCe.out W hb j hjl2).2.1, (HCe.out W hb k hlt).1⟩
          have HIj := Lib.hid (fun W hb e1 e2 => HIn.out W j hjk hb e1 e2)
          clear HIn HCe HAh
          by_cases hkj : (l[j]).ki = (l[k]).ki
          case neg =>
            clear HIj HAj
            generalize (l[j]).ki = kij at *
            generalize (l[k]).ki = kik at *
            have q5 : (kij == kik) = false := by rw [beq_eq_false_iff_ne]; exact hkj
            have q5d : decide (kij = kik) = false := decide_eq_false hkj
            clear hkj
            generalize (l[j]).wh = whj at *
            go_upto_region 13 with fail
            obtain ⟨Sp, hSp⟩ : ∃ Sp : World → Prop, Hid (∀ w', Sp w' ↔ (Below w.heap.size w w' ∧ w'.cell? ⟨b, off + j * 34, none⟩ = some (.int .i64 kij) ∧ w'.cell? ⟨b, off + j * 34 + 3, none⟩ = some (.int .i64 whj) ∧ w'.cell? ⟨b, off + k * 34, none⟩ = some (.int .i64 kik))) := ⟨_, Lib.hid fun _ => Iff.rfl⟩
            refine wp_region_held_gen Sp (by kernel_rfl) ((hSp.out _).2 ⟨HBj.out.drew, HCj.out _ HBj.out.drew⟩) ?_
            have hHeld : Sp _ := (hSp.out (World.drew _)).2 ⟨HBj.out.drew, HCj.out _ HBj.out.drew⟩
            intro O hO
            refine held_read hO (i := 0) rfl rfl (by kernel_rfl) (fun _ _ _ _ h => h) ?_ hHeld ?_ ?_
            rotate_left 1
            · (intro w hSw; have hSw := (hSp.out _).1 hSw; go_simp; (try with_reducible rfl))
            try simp only [Act.put, List.setIfInBounds_toArray, List.set_cons_zero, List.set_cons_succ]
            refine held_read hO (i := 1) rfl rfl (by kernel_rfl) (fun _ _ _ _ h => h) ?_ hHeld ?_ ?_
            rotate_left 1
            · (intro w hSw; have hSw := (hSp.out _).1 hSw; go_simp; (try with_reducible rfl))
            try simp only [Act.put, List.setIfInBounds_toArray, List.set_cons_zero, List.set_cons_succ]
            refine held_read hO (i := 2) rfl rfl (by kernel_rfl) (fun _ _ _ _ h => h) ?_ hHeld ?_ ?_
            rotate_left 1
            · (intro w hSw; have hSw := (hSp.out _).1 hSw; go_simp; (try with_reducible rfl))
            try simp only [Act.put, List.setIfInBounds_toArray, List.set_cons_zero, List.set_cons_succ]
            refine held_read hO (i := 3) rfl rfl (by kernel_rfl) (fun _ _ _ _ h => h) ?_ hHeld ?_ ?_
            rotate_left 1
            · (intro w hSw; have hSw := (hSp.out _).1 hSw; go_simp; (try with_reducible rfl))
            try simp only [Act.put, List.setIfInBounds_toArray, List.set_cons_zero, List.set_cons_succ]
            refine held_read hO (i := 4) rfl rfl (by kernel_rfl) (fun _ _ _ _ h => h) ?_ hHeld ?_ ?_
            rotate_left 1
            · (intro w hSw; have hSw := (hSp.out _).1 hSw; go_simp; (try with_reducible rfl))
            try simp only [Act.put, List.setIfInBounds_toArray, List.set_cons_zero, List.set_cons_succ]
            refine held_read hO (i := 5) rfl rfl (by kernel_rfl) (fun _ _ _ _ h => h) ?_ hHeld ?_ ?_
            rotate_left 1
            · (intro w hSw; have hSw := (hSp.out _).1 hSw; go_simp; (try with_reducible rfl))
            try simp only [Act.put, List.setIfInBounds_toArray, List.set_cons_zero, List.set_cons_succ]
            refine held_read hO (i := 6) rfl rfl (by kernel_rfl) (fun _ _ _ _ h => h) ?_ hHeld ?_ ?_
            rotate_left 1
            · (intro w hSw; have hSw := (hSp.out _).1 hSw; go_simp; (try with_reducible rfl))
            try simp only [Act.put, List.setIfInBounds_toArray, List.set_cons_zero, List.set_cons_succ]
            refine held_read hO (i := 7) rfl rfl (by kernel_rfl) (fun _ _ _ _ h => h) ?_ hHeld ?_ ?_
            rotate_left 1
            · (intro w hSw; have hSw := (hSp.out _).1 hSw; go_simp; (try with_reducible rfl))
            try simp only [Act.put, List.setIfInBounds_toArray, List.set_cons_zero, List.set_cons_succ]
            refine held_read hO (i := 8) rfl rfl (by kernel_rfl) (fun _ _ _ _ h => h) ?_ hHeld ?_ ?_
            rotate_left 1
            · (intro w hSw; have hSw := (hSp.out _).1 hSw; go_simp; (try with_reducible rfl))
            try simp only [Act.put, List.setIfInBounds_toArray, List.set_cons_zero, List.set_cons_succ]
            refine held_read hO (i := 9) rfl rfl (by kernel_rfl) (fun _ _ _ _ h => h) ?_ hHeld ?_ ?_
            rotate_left 1
            · (intro w hSw; have hSw := (hSp.out _).1 hSw; go_simp; (try with_reducible rfl))
            try simp only [Act.put, List.setIfInBounds_toArray, List.set_cons_zero, List.set_cons_succ]
            refine held_read hO (i := 10) rfl rfl (by kernel_rfl) (fun _ _ _ _ h => h) ?_ hHeld ?_ ?_
            rotate_left 1
            · (intro w hSw; have hSw := (hSp.out _).1 hSw; go_simp; (try with_reducible rfl))
            try simp only [Act.put, List.setIfInBounds_toArray, List.set_cons_zero, List.set_cons_succ]
            refine held_read hO (i := 11) rfl rfl (by kernel_rfl) (fun _ _ _ _ h => h) ?_ hHeld ?_ ?_
            rotate_left 1
            · (intro w hSw; have hSw := (hSp.out _).1 hSw; go_simp; (try with_reducible rfl))
            try simp only [Act.put, List.setIfInBounds_toArray, List.set_cons_zero, List.set_cons_succ]
            refine held_skip hO (i := 12) rfl (by kernel_rfl) (by kernel_rfl) (fun _ _ _ _ h => h) hHeld ?_
            try simp only [Act.put, List.setIfInBounds_toArray, List.set_cons_zero, List.set_cons_succ]
            refine held_skip hO (i := 13) rfl (by kernel_rfl) (by kernel_rfl) (fun _ _ _ _ h => h) hHeld ?_
            try simp only [Act.put, List.setIfInBounds_toArray, List.set_cons_zero, List.set_cons_succ]
            refine held_skip hO (i := 14) rfl (by kernel_rfl) (by kernel_rfl) (fun _ _ _ _ h => h) hHeld ?_
            try simp only [Act.put, List.setIfInBounds_toArray, List.set_cons_zero, List.set_cons_succ]
            refine held_skip hO (i := 15) rfl (by kernel_rfl) (by kernel_rfl) (fun _ _ _ _ h => h) hHeld ?_
            try simp only [Act.put, List.setIfInBounds_toArray, List.set_cons_zero, List.set_cons_succ]
            refine held_skip hO (i := 16) rfl (by kernel_rfl) (by kernel_rfl) (fun _ _ _ _ h => h) hHeld ?_
            try simp only [Act.put, List.setIfInBounds_toArray, List.set_cons_zero, List.set_cons_succ]
            refine held_skip hO (i := 17) rfl (by kernel_rfl) (by kernel_rfl) (fun _ _ _ _ h => h) hHeld ?_
            try simp only [Act.put, List.setIfInBounds_toArray, List.set_cons_zero, List.set_cons_succ]
            refine held_skip hO (i := 18) rfl (by kernel_rfl) (by kernel_rfl) (fun _ _ _ _ h => h) hHeld ?_
            try simp only [Act.put, List.setIfInBounds_toArray, List.set_cons_zero, List.set_cons_succ]
            refine held_skip hO (i := 19) rfl (by kernel_rfl) (by kernel_rfl) (fun _ _ _ _ h => h) hHeld ?_
            try simp only [Act.put, List.setIfInBounds_toArray, List.set_cons_zero, List.set_cons_succ]
            refine held_skip hO (i := 20) rfl (by kernel_rfl) (by kernel_rfl) (fun _ _ _ _ h => h) hHeld ?_
            try simp only [Act.put, List.setIfInBounds_toArray, List.set_cons_zero, List.set_cons_succ]
            refine held_read hO (i := 21) rfl rfl (by kernel_rfl) (fun _ _ _ _ h => h) ?_ hHeld ?_ ?_
            rotate_left 1
            · (intro w hSw; have hSw := (hSp.out _).1 hSw; go_simp; (try with_reducible rfl))
            try simp only [Act.put, List.setIfInBounds_toArray, List.set_cons_zero, List.set_cons_succ]
            refine held_done hO (by kernel_rfl) ?_
            clear hO O
            go_wp2_with fail
            go_roundw
            case rel => exact ⟨j + 1, by omega, by go_num, Lib.hid ((hSp.out _).1 hHeld).1⟩
            case measure => simp [intOf]; omega
          obtain ⟨ah, hah⟩ : ∃ ah, Hid (aheadB l (l[j]).wh (j : Int) = ah) := ⟨_, Lib.hid rfl⟩
          rw [hah.out] at HAj
          have HIj2 := Lib.hid (fun W hb (e : ah = false) => HIj.out W hb hkj (hah.out.trans e))
          clear HIj hah
          generalize (l[j]).ki = kij at *
          generalize (l[k]).ki = kik at *
          subst hkj
          generalize (l[j]).wh = whj at *
          go_upto_region 13 with fail
          obtain ⟨Sp, hSp⟩ : ∃ Sp : World → Prop, Hid (∀ w', Sp w' ↔ (Below w.heap.size w w' ∧ w'.cell? ⟨b, off + j * 34, none⟩ = some (.int .i64 kij) ∧ w'.cell? ⟨b, off + j * 34 + 3, none⟩ = some (.int .i64 whj) ∧ w'.cell? ⟨b, off + k * 34, none⟩ = some (.int .i64 kij))) := ⟨_, Lib.hid fun _ => Iff.rfl⟩
          refine wp_region_held_gen Sp (by kernel_rfl) ((hSp.out _).2 ⟨HBj.out.drew, HCj.out _ HBj.out.drew⟩) ?_
          have hHeld : Sp _ := (hSp.out (World.drew _)).2 ⟨HBj.out.drew, HCj.out _ HBj.out.drew⟩
          intro O hO
          refine held_read hO (i := 0) rfl rfl (by kernel_rfl) (fun _ _ _ _ h => h) ?_ hHeld ?_ ?_
          rotate_left 1
          · (intro w hSw; have hSw := (hSp.out _).1 hSw; go_simp; (try with_reducible rfl))
          try simp only [Act.put, List.setIfInBounds_toArray, List.set_cons_zero, List.set_cons_succ]
          refine held_read hO (i := 1) rfl rfl (by kernel_rfl) (fun _ _ _ _ h => h) ?_ hHeld ?_ ?_
          rotate_left 1
          · (intro w hSw; have hSw := (hSp.out _).1 hSw; go_simp; (try with_reducible rfl))
          try simp only [Act.put, List.setIfInBounds_toArray, List.set_cons_zero, List.set_cons_succ]
          refine held_read hO (i := 2) rfl rfl (by kernel_rfl) (fun _ _ _ _ h => h) ?_ hHeld ?_ ?_
          rotate_left 1
          · (intro w hSw; have hSw := (hSp.out _).1 hSw; go_simp; (try with_reducible rfl))
          try simp only [Act.put, List.setIfInBounds_toArray, List.set_cons_zero, List.set_cons_succ]
          refine held_read hO (i := 3) rfl rfl (by kernel_rfl) (fun _ _ _ _ h => h) ?_ hHeld ?_ ?_
          rotate_left 1
          · (intro w hSw; have hSw := (hSp.out _).1 hSw; go_simp; (try with_reducible rfl))
          try simp only [Act.put, List.setIfInBounds_toArray, List.set_cons_zero, List.set_cons_succ]
          refine held_read hO (i := 4) rfl rfl (by kernel_rfl) (fun _ _ _ _ h => h) ?_ hHeld ?_ ?_
          rotate_left 1
          · (intro w hSw; have hSw := (hSp.out _).1 hSw; go_simp; (try with_reducible rfl))
          try simp only [Act.put, List.setIfInBounds_toArray, List.set_cons_zero, List.set_cons_succ]
          refine held_read hO (i := 5) rfl rfl (by kernel_rfl) (fun _ _ _ _ h => h) ?_ hHeld ?_ ?_
          rotate_left 1
          · (intro w hSw; have hSw := (hSp.out _).1 hSw; go_simp; (try with_reducible rfl))
          try simp only [Act.put, List.setIfInBounds_toArray, List.set_cons_zero, List.set_cons_succ]
          refine held_read hO (i := 6) rfl rfl (by kernel_rfl) (fun _ _ _ _ h => h) ?_ hHeld ?_ ?_
          rotate_left 1
          · (intro w hSw; have hSw := (hSp.out _).1 hSw; go_simp; (try with_reducible rfl))
          try simp only [Act.put, List.setIfInBounds_toArray, List.set_cons_zero, List.set_cons_succ]
          refine held_read hO (i := 7) rfl rfl (by kernel_rfl) (fun _ _ _ _ h => h) ?_ hHeld ?_ ?_
          rotate_left 1
          · (intro w hSw; have hSw := (hSp.out _).1 hSw; go_simp; (try with_reducible rfl))
          try simp only [Act.put, List.setIfInBounds_toArray, List.set_cons_zero, List.set_cons_succ]
          refine held_read hO (i := 8) rfl rfl (by kernel_rfl) (fun _ _ _ _ h => h) ?_ hHeld ?_ ?_
          rotate_left 1
          · (intro w hSw; have hSw := (hSp.out _).1 hSw; go_simp; (try with_reducible rfl))
          try simp only [Act.put, List.setIfInBounds_toArray, List.set_cons_zero, List.set_cons_succ]
          refine held_read hO (i := 9) rfl rfl (by kernel_rfl) (fun _ _ _ _ h => h) ?_ hHeld ?_ ?_
          rotate_left 1
          · (intro w hSw; have hSw := (hSp.out _).1 hSw; go_simp; (try with_reducible rfl))
          try simp only [Act.put, List.setIfInBounds_toArray, List.set_cons_zero, List.set_cons_succ]
          refine held_read hO (i := 10) rfl rfl (by kernel_rfl) (fun _ _ _ _ h => h) ?_ hHeld ?_ ?_
          rotate_left 1
          · (intro w hSw; have hSw := (hSp.out _).1 hSw; go_simp; (try with_reducible rfl))
          try simp only [Act.put, List.setIfInBounds_toArray, List.set_cons_zero, List.set_cons_succ]
          refine held_read hO (i := 11) rfl rfl (by kernel_rfl) (fun _ _ _ _ h => h) ?_ hHeld ?_ ?_
          rotate_left 1
          · (intro w hSw; have hSw := (hSp.out _).1 hSw; go_simp; (try with_reducible rfl))
          try simp only [Act.put, List.setIfInBounds_toArray, List.set_cons_zero, List.set_cons_succ]
          refine held_take hO (i := 12) rfl (by kernel_rfl) (by kernel_rfl) (fun _ _ _ _ h => h) ?_ hHeld ?_ ?_
          rotate_left 1
          · (intro w hSw; have hSw := (hSp.out _).1 hSw; go_simp; (try with_reducible rfl))
          try simp only [Act.put, List.setIfInBounds_toArray, List.set_cons_zero, List.set_cons_succ]
          refine held_take hO (i := 13) rfl (by kernel_rfl) (by kernel_rfl) (fun _ _ _ _ h => h) ?_ hHeld ?_ ?_
          rotate_left 1
          · (intro w hSw; have hSw := (hSp.out _).1 hSw; go_simp; (try with_reducible rfl))
          try simp only [Act.put, List.setIfInBounds_toArray, List.set_cons_zero, List.set_cons_succ]
          refine held_take hO (i := 14) rfl (by kernel_rfl) (by kernel_rfl) (fun _ _ _ _ h => h) ?_ hHeld ?_ ?_
          rotate_left 1
          · (intro w hSw; have hSw := (hSp.out _).1 hSw; go_simp; (try with_reducible rfl))
          try simp only [Act.put, List.setIfInBounds_toArray, List.set_cons_zero, List.set_cons_succ]
          refine held_take hO (i := 15) rfl (by kernel_rfl) (by kernel_rfl) (fun _ _ _ _ h => h) ?_ hHeld ?_ ?_
          rotate_left 1
          · (intro w hSw; have hSw := (hSp.out _).1 hSw; go_simp; (try with_reducible rfl))
          try simp only [Act.put, List.setIfInBounds_toArray, List.set_cons_zero, List.set_cons_succ]
          refine held_take hO (i := 16) rfl (by kernel_rfl) (by kernel_rfl) (fun _ _ _ _ h => h) ?_ hHeld ?_ ?_
          rotate_left 1
          · (intro w hSw; have hSw := (hSp.out _).1 hSw; go_simp; (try with_reducible rfl))
          try simp only [Act.put, List.setIfInBounds_toArray, List.set_cons_zero, List.set_cons_succ]
          refine held_take hO (i := 17) rfl (by kernel_rfl) (by kernel_rfl) (fun _ _ _ _ h => h) ?_ hHeld ?_ ?_
          rotate_left 1
          · (intro w hSw; have hSw := (hSp.out _).1 hSw; go_simp; (try with_reducible rfl))
          try simp only [Act.put, List.setIfInBounds_toArray, List.set_cons_zero, List.set_cons_succ]
          refine held_take hO (i := 18) rfl (by kernel_rfl) (by kernel_rfl) (fun _ _ _ _ h => h) ?_ hHeld ?_ ?_
          rotate_left 1
          · (intro w hSw; have hSw := (hSp.out _).1 hSw; go_simp; (try with_reducible rfl))
          try simp only [Act.put, List.setIfInBounds_toArray, List.set_cons_zero, List.set_cons_succ]
          refine held_stepg hO (i := 19) rfl (by kernel_rfl) (by kernel_rfl) (fun K hK => ?_)
          go_simp
          go_at_call 6
          with_reducible refine (HAj.out _ ((hSp.out _).1 hHeld).1).mono ?_
          rintro e w9 ⟨rfl, hw⟩
          subst hw
          go_wp2_with fail
          refine hK.out _ _ hHeld ?_
          clear hK K
          try simp only [Act.put, List.setIfInBounds_toArray, List.set_cons_zero, List.set_cons_succ]
          refine held_take hO (i := 20) rfl (by kernel_rfl) (by kernel_rfl) (fun _ _ _ _ h => h) ?_ hHeld ?_ ?_
          rotate_left 1
          · (intro w hSw; have hSw := (hSp.out _).1 hSw; go_simp; (try with_reducible rfl))
          try simp only [Act.put, List.setIfInBounds_toArray, List.set_cons_zero, List.set_cons_succ]
          refine held_read hO (i := 21) rfl rfl (by kernel_rfl) (fun _ _ _ _ h => h) ?_ hHeld ?_ ?_
          rotate_left 1
          · (intro w hSw; have hSw := (hSp.out _).1 hSw; go_simp; (try with_reducible rfl))
          try simp only [Act.put, List.setIfInBounds_toArray, List.set_cons_zero, List.set_cons_succ]
          refine held_done hO (by kernel_rfl) ?_
          clear hO O
          have HBh := Lib.hid ((hSp.out _).1 hHeld).1
          cases ah with
          | true =>
            go_wp2_with fail
            go_roundw
            case rel => exact ⟨j + 1, by omega, by go_num, HBh⟩
            case measure => simp [intOf]; omega
          | false =>
            obtain ⟨t, qt, hcal⟩ := HIj2.out _ HBh.out rfl
            have HCal := Lib.hid hcal
            clear hcal HIj2
            go_wp2_with (first | (go_at_call 7; (with_reducible refine HCal.out.mono ?_); rintro e w10 ⟨rfl, b10⟩; have HB10 := Lib.hid (HBh.out.trans (b10.mono HBh.out.size)); clear b10))
            go_roundw
            case rel => exact ⟨j + 1, by omega, by go_num, HB10⟩
            case measure => simp [intOf]; omega
    · have esid := (src_four hsb e).2
      have ewh := (src_four hsb e).1
      have HKi := Lib.hid e
      clear hsb
      rw [e] at x0
      go_upto_region 8 with (first
        | (go_at_call 6; (with_reducible refine HA1.out.mono ?_); rintro e w2 ⟨rfl, hw2⟩; have hw2 := hw2.symm; subst hw2)
        | (go_at_call 7; (with_reducible refine HS1.out.mono ?_); rintro e w7 ⟨rfl, b7⟩; have HB7 := Lib.hid (HB.out.trans (b7.mono HB.out.size)); clear b7))
      obtain ⟨k0, k3, k7, k8⟩ := HCe.out w7 HB7.out k hlt
      obtain ⟨s0, s3, s7, s8⟩ := HCe.out w7 HB7.out s (by omega)
      rw [e] at k0
      rw [ewh] at s3
      clear x0 x3 x7 HX8 HA1 HS1 HB s0
      go_cut [119] (fun u wx => u = .bool false ∧ Hid (Below w.heap.size w wx))
      case first =>
        rename_i J K' hJ hK'
        rw [esid] at s7
        exact agm8_4 hlen hlt hs k0 k3 s3 k7 s7 (Lib.hid s8.out) (Lib.hid k8.out) HB7 (by kernel_rfl) (fun a' w' h => hK' a' w' (Met.intro (hJ a' w' h)))
      case rest =>
        obtain ⟨rfl, HB8⟩ := hcut
        clear k0 k3 k7 k8 s3 s7 s8 HB7 HEa HDs e ewh esid
        go_wp2_with fail
        go_loopw [6] (fun i wx => ∃ j : Nat, j ≤ k ∧ i = .int .i64 j ∧ Hid (Below w.heap.size w wx)) (fun i _ => k - (intOf i).toNat)
        case atStart => exact ⟨0, Nat.zero_le _, rfl, HB8⟩
        case round =>
          obtain ⟨j, hj, rfl, HBj⟩ := hrel
          clear HB8
          by_cases hjk : j < k
          case neg =>
            have hjk2 : j = k := by omega
            subst hjk2
            clear HIn hjk
            have q9 : decide ((j : Int) < (j : Int)) = false := decide_eq_false (by omega)
            go_wp2_with fail
            go_roundw
            case rel => exact ⟨j + 1, by omega, by go_num, HBj⟩
            case measure => simp [intOf]; omega
          have q9 : decide ((j : Int) < (k : Int)) = true := decide_eq_true (by omega)
          have hjl : (j : Int) < (l.length : Int) := by omega
          have hjl2 : j < l.length := by omega
          obtain ⟨j0, j3, _, _⟩ := HCe.out wr HBj.out j hjl2
          obtain ⟨k0, _, _, _⟩ := HCe.out wr HBj.out k hlt
          have HAj := Lib.hid (fun W hb => HAh.out W (l[j]).wh j hb)
          have HCj : Hid (∀ W, Below w.heap.size w W → W.cell? ⟨b, off + j * 34, none⟩ = some (.int .i64 (l[j]).ki) ∧ W.cell? ⟨b, off + j * 34 + 3, none⟩ = some (.int .i64 (l[j]).wh) ∧ W.cell? ⟨b, off + k * 34, none⟩ = some (.int .i64 (l[k]).ki)) := fun W hb => ⟨(HCe.out W hb j hjl2).1, (HCe.out W hb j hjl2).2.1, (HCe.out W hb k hlt).1⟩
          have HIj := Lib.hid (fun W hb e1 e2 => HIn.out W j hjk hb e1 e2)
          clear HIn HCe HAh
          by_cases hkj : (l[j]).ki = (l[k]).ki
          case neg =>
            clear HIj HAj
            generalize (l[j]).ki = kij at *
            generalize (l[k]).ki = kik at *
            have q5 : (kij == kik) = false := by rw [beq_eq_false_iff_ne]; exact hkj
            have q5d : decide (kij = kik) = false := decide_eq_false hkj
            clear hkj
            generalize (l[j]).wh = whj at *
            go_upto_region 13 with fail
            obtain ⟨Sp, hSp⟩ : ∃ Sp : World → Prop, Hid (∀ w', Sp w' ↔ (Below w.heap.size w w' ∧ w'.cell? ⟨b, off + j * 34, none⟩ = some (.int .i64 kij) ∧ w'.cell? ⟨b, off + j * 34 + 3, none⟩ = some (.int .i64 whj) ∧ w'.cell? ⟨b, off + k * 34, none⟩ = some (.int .i64 kik))) := ⟨_, Lib.hid fun _ => Iff.rfl⟩
            refine wp_region_held_gen Sp (by kernel_rfl) ((hSp.out _).2 ⟨HBj.out.drew, HCj.out _ HBj.out.drew⟩) ?_
            have hHeld : Sp _ := (hSp.out (World.drew _)).2 ⟨HBj.out.drew, HCj.out _ HBj.out.drew⟩
            intro O hO
            refine held_read hO (i := 0) rfl rfl (by kernel_rfl) (fun _ _ _ _ h => h) ?_ hHeld ?_ ?_
            rotate_left 1
            · (intro w hSw; have hSw := (hSp.out _).1 hSw; go_simp; (try with_reducible rfl))
            try simp only [Act.put, List.setIfInBounds_toArray, List.set_cons_zero, List.set_cons_succ]
            refine held_read hO (i := 1) rfl rfl (by kernel_rfl) (fun _ _ _ _ h => h) ?_ hHeld ?_ ?_
            rotate_left 1
            · (intro w hSw; have hSw := (hSp.out _).1 hSw; go_simp; (try with_reducible rfl))
            try simp only [Act.put, List.setIfInBounds_toArray, List.set_cons_zero, List.set_cons_succ]
            refine held_read hO (i := 2) rfl rfl (by kernel_rfl) (fun _ _ _ _ h => h) ?_ hHeld ?_ ?_
            rotate_left 1
            · (intro w hSw; have hSw := (hSp.out _).1 hSw; go_simp; (try with_reducible rfl))
            try simp only [Act.put, List.setIfInBounds_toArray, List.set_cons_zero, List.set_cons_succ]
            refine held_read hO (i := 3) rfl rfl (by kernel_rfl) (fun _ _ _ _ h => h) ?_ hHeld ?_ ?_
            rotate_left 1
            · (intro w hSw; have hSw := (hSp.out _).1 hSw; go_simp; (try with_reducible rfl))
            try simp only [Act.put, List.setIfInBounds_toArray, List.set_cons_zero, List.set_cons_succ]
            refine held_read hO (i := 4) rfl rfl (by kernel_rfl) (fun _ _ _ _ h => h) ?_ hHeld ?_ ?_
            rotate_left 1
            · (intro w hSw; have hSw := (hSp.out _).1 hSw; go_simp; (try with_reducible rfl))
            try simp only [Act.put, List.setIfInBounds_toArray, List.set_cons_zero, List.set_cons_succ]
            refine held_read hO (i := 5) rfl rfl (by kernel_rfl) (fun _ _ _ _ h => h) ?_ hHeld ?_ ?_
            rotate_left 1
            · (intro w hSw; have hSw := (hSp.out _).1 hSw; go_simp; (try with_reducible rfl))
            try simp only [Act.put, List.setIfInBounds_toArray, List.set_cons_zero, List.set_cons_succ]
            refine held_read hO (i := 6) rfl rfl (by kernel_rfl) (fun _ _ _ _ h => h) ?_ hHeld ?_ ?_
            rotate_left 1
            · (intro w hSw; have hSw := (hSp.out _).1 hSw; go_simp; (try with_reducible rfl))
            try simp only [Act.put, List.setIfInBounds_toArray, List.set_cons_zero, List.set_cons_succ]
            refine held_read hO (i := 7) rfl rfl (by kernel_rfl) (fun _ _ _ _ h => h) ?_ hHeld ?_ ?_
            rotate_left 1
            · (intro w hSw; have hSw := (hSp.out _).1 hSw; go_simp; (try with_reducible rfl))
            try simp only [Act.put, List.setIfInBounds_toArray, List.set_cons_zero, List.set_cons_succ]
            refine held_read hO (i := 8) rfl rfl (by kernel_rfl) (fun _ _ _ _ h => h) ?_ hHeld ?_ ?_
            rotate_left 1
            · (intro w hSw; have hSw := (hSp.out _).1 hSw; go_simp; (try with_reducible rfl))
            try simp only [Act.put, List.setIfInBounds_toArray, List.set_cons_zero, List.set_cons_succ]
            refine held_read hO (i := 9) rfl rfl (by kernel_rfl) (fun _ _ _ _ h => h) ?_ hHeld ?_ ?_
            rotate_left 1
            · (intro w hSw; have hSw := (hSp.out _).1 hSw; go_simp; (try with_reducible rfl))
            try simp only [Act.put, List.setIfInBounds_toArray, List.set_cons_zero, List.set_cons_succ]
            refine held_read hO (i := 10) rfl rfl (by kernel_rfl) (fun _ _ _ _ h => h) ?_ hHeld ?_ ?_
            rotate_left 1
            · (intro w hSw; have hSw := (hSp.out _).1 hSw; go_simp; (try with_reducible rfl))
            try simp only [Act.put, List.setIfInBounds_toArray, List.set_cons_zero, List.set_cons_succ]
            refine held_read hO (i := 11) rfl rfl (by kernel_rfl) (fun _ _ _ _ h => h) ?_ hHeld ?_ ?_
            rotate_left 1
            · (intro w hSw; have hSw := (hSp.out _).1 hSw; go_simp; (try with_reducible rfl))
            try simp only [Act.put, List.setIfInBounds_toArray, List.set_cons_zero, List.set_cons_succ]
            refine held_skip hO (i := 12) rfl (by kernel_rfl) (by kernel_rfl) (fun _ _ _ _ h => h) hHeld ?_
            try simp only [Act.put, List.setIfInBounds_toArray, List.set_cons_zero, List.set_cons_succ]
            refine held_skip hO (i := 13) rfl (by kernel_rfl) (by kernel_rfl) (fun _ _ _ _ h => h) hHeld ?_
            try simp only [Act.put, List.setIfInBounds_toArray, List.set_cons_zero, List.set_cons_succ]
            refine held_skip hO (i := 14) rfl (by kernel_rfl) (by kernel_rfl) (fun _ _ _ _ h => h) hHeld ?_
            try simp only [Act.put, List.setIfInBounds_toArray, List.set_cons_zero, List.set_cons_succ]
            refine held_skip hO (i := 15) rfl (by kernel_rfl) (by kernel_rfl) (fun _ _ _ _ h => h) hHeld ?_
            try simp only [Act.put, List.setIfInBounds_toArray, List.set_cons_zero, List.set_cons_succ]
            refine held_skip hO (i := 16) rfl (by kernel_rfl) (by kernel_rfl) (fun _ _ _ _ h => h) hHeld ?_
            try simp only [Act.put, List.setIfInBounds_toArray, List.set_cons_zero, List.set_cons_succ]
            refine held_skip hO (i := 17) rfl (by kernel_rfl) (by kernel_rfl) (fun _ _ _ _ h => h) hHeld ?_
            try simp only [Act.put, List.setIfInBounds_toArray, List.set_cons_zero, List.set_cons_succ]
            refine held_skip hO (i := 18) rfl (by kernel_rfl) (by kernel_rfl) (fun _ _ _ _ h => h) hHeld ?_
            try simp only [Act.put, List.setIfInBounds_toArray, List.set_cons_zero, List.set_cons_succ]
            refine held_skip hO (i := 19) rfl (by kernel_rfl) (by kernel_rfl) (fun _ _ _ _ h => h) hHeld ?_
            try simp only [Act.put, List.setIfInBounds_toArray, List.set_cons_zero, List.set_cons_succ]
            refine held_skip hO (i := 20) rfl (by kernel_rfl) (by kernel_rfl) (fun _ _ _ _ h => h) hHeld ?_
            try simp only [Act.put, List.setIfInBounds_toArray, List.set_cons_zero, List.set_cons_succ]
            refine held_read hO (i := 21) rfl rfl (by kernel_rfl) (fun _ _ _ _ h => h) ?_ hHeld ?_ ?_
            rotate_left 1
            · (intro w hSw; have hSw := (hSp.out _).1 hSw; go_simp; (try with_reducible rfl))
            try simp only [Act.put, List.setIfInBounds_toArray, List.set_cons_zero, List.set_cons_succ]
            refine held_done hO (by kernel_rfl) ?_
            clear hO O
            go_wp2_with fail
            go_roundw
            case rel => exact ⟨j + 1, by omega, by go_num, Lib.hid ((hSp.out _).1 hHeld).1⟩
            case measure => simp [intOf]; omega
          obtain ⟨ah, hah⟩ : ∃ ah, Hid (aheadB l (l[j]).wh (j : Int) = ah) := ⟨_, Lib.hid rfl⟩
          rw [hah.out] at HAj
          have HIj2 := Lib.hid (fun W hb (e : ah = false) => HIj.out W hb hkj (hah.out.trans e))
          clear HIj hah
          generalize (l[j]).ki = kij at *
          generalize (l[k]).ki = kik at *
          subst hkj
          generalize (l[j]).wh = whj at *
          go_upto_region 13 with fail
          obtain ⟨Sp, hSp⟩ : ∃ Sp : World → Prop, Hid (∀ w', Sp w' ↔ (Below w.heap.size w w' ∧ w'.cell? ⟨b, off + j * 34, none⟩ = some (.int .i64 kij) ∧ w'.cell? ⟨b, off + j * 34 + 3, none⟩ = some (.int .i64 whj) ∧ w'.cell? ⟨b, off + k * 34, none⟩ = some (.int .i64 kij))) := ⟨_, Lib.hid fun _ => Iff.rfl⟩
          refine wp_region_held_gen Sp (by kernel_rfl) ((hSp.out _).2 ⟨HBj.out.drew, HCj.out _ HBj.out.drew⟩) ?_
          have hHeld : Sp _ := (hSp.out (World.drew _)).2 ⟨HBj.out.drew, HCj.out _ HBj.out.drew⟩
          intro O hO
          refine held_read hO (i := 0) rfl rfl (by kernel_rfl) (fun _ _ _ _ h => h) ?_ hHeld ?_ ?_
          rotate_left 1
          · (intro w hSw; have hSw := (hSp.out _).1 hSw; go_simp; (try with_reducible rfl))
          try simp only [Act.put, List.setIfInBounds_toArray, List.set_cons_zero, List.set_cons_succ]
          refine held_read hO (i := 1) rfl rfl (by kernel_rfl) (fun _ _ _ _ h => h) ?_ hHeld ?_ ?_
          rotate_left 1
          · (intro w hSw; have hSw := (hSp.out _).1 hSw; go_simp; (try with_reducible rfl))
          try simp only [Act.put, List.setIfInBounds_toArray, List.set_cons_zero, List.set_cons_succ]
          refine held_read hO (i := 2) rfl rfl (by kernel_rfl) (fun _ _ _ _ h => h) ?_ hHeld ?_ ?_
          rotate_left 1
          · (intro w hSw; have hSw := (hSp.out _).1 hSw; go_simp; (try with_reducible rfl))
          try simp only [Act.put, List.setIfInBounds_toArray, List.set_cons_zero, List.set_cons_succ]
          refine held_read hO (i := 3) rfl rfl (by kernel_rfl) (fun _ _ _ _ h => h) ?_ hHeld ?_ ?_
          rotate_left 1
          · (intro w hSw; have hSw := (hSp.out _).1 hSw; go_simp; (try with_reducible rfl))
          try simp only [Act.put, List.setIfInBounds_toArray, List.set_cons_zero, List.set_cons_succ]
          refine held_read hO (i := 4) rfl rfl (by kernel_rfl) (fun _ _ _ _ h => h) ?_ hHeld ?_ ?_
          rotate_left 1
          · (intro w hSw; have hSw := (hSp.out _).1 hSw; go_simp; (try with_reducible rfl))
          try simp only [Act.put, List.setIfInBounds_toArray, List.set_cons_zero, List.set_cons_succ]
          refine held_read hO (i := 5) rfl rfl (by kernel_rfl) (fun _ _ _ _ h => h) ?_ hHeld ?_ ?_
          rotate_left 1
          · (intro w hSw; have hSw := (hSp.out _).1 hSw; go_simp; (try with_reducible rfl))
          try simp only [Act.put, List.setIfInBounds_toArray, List.set_cons_zero, List.set_cons_succ]
          refine held_read hO (i := 6) rfl rfl (by kernel_rfl) (fun _ _ _ _ h => h) ?_ hHeld ?_ ?_
          rotate_left 1
          · (intro w hSw; have hSw := (hSp.out _).1 hSw; go_simp; (try with_reducible rfl))
          try simp only [Act.put, List.setIfInBounds_toArray, List.set_cons_zero, List.set_cons_succ]
          refine held_read hO (i := 7) rfl rfl (by kernel_rfl) (fun _ _ _ _ h => h) ?_ hHeld ?_ ?_
          rotate_left 1
          · (intro w hSw; have hSw := (hSp.out _).1 hSw; go_simp; (try with_reducible rfl))
          try simp only [Act.put, List.setIfInBounds_toArray, List.set_cons_zero, List.set_cons_succ]
          refine held_read hO (i := 8) rfl rfl (by kernel_rfl) (fun _ _ _ _ h => h) ?_ hHeld ?_ ?_
          rotate_left 1
          · (intro w hSw; have hSw := (hSp.out _).1 hSw; go_simp; (try with_reducible rfl))
          try simp only [Act.put, List.setIfInBounds_toArray, List.set_cons_zero, List.set_cons_succ]
          refine held_read hO (i := 9) rfl rfl (by kernel_rfl) (fun _ _ _ _ h => h) ?_ hHeld ?_ ?_
          rotate_left 1
          · (intro w hSw; have hSw := (hSp.out _).1 hSw; go_simp; (try with_reducible rfl))
          try simp only [Act.put, List.setIfInBounds_toArray, List.set_cons_zero, List.set_cons_succ]
          refine held_read hO (i := 10) rfl rfl (by kernel_rfl) (fun _ _ _ _ h => h) ?_ hHeld ?_ ?_
          rotate_left 1
          · (intro w hSw; have hSw := (hSp.out _).1 hSw; go_simp; (try with_reducible rfl))
          try simp only [Act.put, List.setIfInBounds_toArray, List.set_cons_zero, List.set_cons_succ]
          refine held_read hO (i := 11) rfl rfl (by kernel_rfl) (fun _ _ _ _ h => h) ?_ hHeld ?_ ?_
          rotate_left 1
          · (intro w hSw; have hSw := (hSp.out _).1 hSw; go_simp; (try with_reducible rfl))
          try simp only [Act.put, List.setIfInBounds_toArray, List.set_cons_zero, List.set_cons_succ]
          refine held_take hO (i := 12) rfl (by kernel_rfl) (by kernel_rfl) (fun _ _ _ _ h => h) ?_ hHeld ?_ ?_
          rotate_left 1
          · (intro w hSw; have hSw := (hSp.out _).1 hSw; go_simp; (try with_reducible rfl))
          try simp only [Act.put, List.setIfInBounds_toArray, List.set_cons_zero, List.set_cons_succ]
          refine held_take hO (i := 13) rfl (by kernel_rfl) (by kernel_rfl) (fun _ _ _ _ h => h) ?_ hHeld ?_ ?_
          rotate_left 1
          · (intro w hSw; have hSw := (hSp.out _).1 hSw; go_simp; (try with_reducible rfl))
          try simp only [Act.put, List.setIfInBounds_toArray, List.set_cons_zero, List.set_cons_succ]
          refine held_take hO (i := 14) rfl (by kernel_rfl) (by kernel_rfl) (fun _ _ _ _ h => h) ?_ hHeld ?_ ?_
          rotate_left 1
          · (intro w hSw; have hSw := (hSp.out _).1 hSw; go_simp; (try with_reducible rfl))
          try simp only [Act.put, List.setIfInBounds_toArray, List.set_cons_zero, List.set_cons_succ]
          refine held_take hO (i := 15) rfl (by kernel_rfl) (by kernel_rfl) (fun _ _ _ _ h => h) ?_ hHeld ?_ ?_
          rotate_left 1
          · (intro w hSw; have hSw := (hSp.out _).1 hSw; go_simp; (try with_reducible rfl))
          try simp only [Act.put, List.setIfInBounds_toArray, List.set_cons_zero, List.set_cons_succ]
          refine held_take hO (i := 16) rfl (by kernel_rfl) (by kernel_rfl) (fun _ _ _ _ h => h) ?_ hHeld ?_ ?_
          rotate_left 1
          · (intro w hSw; have hSw := (hSp.out _).1 hSw; go_simp; (try with_reducible rfl))
          try simp only [Act.put, List.setIfInBounds_toArray, List.set_cons_zero, List.set_cons_succ]
          refine held_take hO (i := 17) rfl (by kernel_rfl) (by kernel_rfl) (fun _ _ _ _ h => h) ?_ hHeld ?_ ?_
          rotate_left 1
          · (intro w hSw; have hSw := (hSp.out _).1 hSw; go_simp; (try with_reducible rfl))
          try simp only [Act.put, List.setIfInBounds_toArray, List.set_cons_zero, List.set_cons_succ]
          refine held_take hO (i := 18) rfl (by kernel_rfl) (by kernel_rfl) (fun _ _ _ _ h => h) ?_ hHeld ?_ ?_
          rotate_left 1
          · (intro w hSw; have hSw := (hSp.out _).1 hSw; go_simp; (try with_reducible rfl))
          try simp only [Act.put, List.setIfInBounds_toArray, List.set_cons_zero, List.set_cons_succ]
          refine held_stepg hO (i := 19) rfl (by kernel_rfl) (by kernel_rfl) (fun K hK => ?_)
          go_simp
          go_at_call 6
          with_reducible refine (HAj.out _ ((hSp.out _).1 hHeld).1).mono ?_
          rintro e w9 ⟨rfl, hw⟩
          subst hw
          go_wp2_with fail
          refine hK.out _ _ hHeld ?_
          clear hK K
          try simp only [Act.put, List.setIfInBounds_toArray, List.set_cons_zero, List.set_cons_succ]
          refine held_take hO (i := 20) rfl (by kernel_rfl) (by kernel_rfl) (fun _ _ _ _ h => h) ?_ hHeld ?_ ?_
          rotate_left 1
          · (intro w hSw; have hSw := (hSp.out _).1 hSw; go_simp; (try with_reducible rfl))
          try simp only [Act.put, List.setIfInBounds_toArray, List.set_cons_zero, List.set_cons_succ]
          refine held_read hO (i := 21) rfl rfl (by kernel_rfl) (fun _ _ _ _ h => h) ?_ hHeld ?_ ?_
          rotate_left 1
          · (intro w hSw; have hSw := (hSp.out _).1 hSw; go_simp; (try with_reducible rfl))
          try simp only [Act.put, List.setIfInBounds_toArray, List.set_cons_zero, List.set_cons_succ]
          refine held_done hO (by kernel_rfl) ?_
          clear hO O
          have HBh := Lib.hid ((hSp.out _).1 hHeld).1
          cases ah with
          | true =>
            go_wp2_with fail
            go_roundw
            case rel => exact ⟨j + 1, by omega, by go_num, HBh⟩
            case measure => simp [intOf]; omega
          | false =>
            obtain ⟨t, qt, hcal⟩ := HIj2.out _ HBh.out rfl
            have HCal := Lib.hid hcal
            clear hcal HIj2
            go_wp2_with (first | (go_at_call 7; (with_reducible refine HCal.out.mono ?_); rintro e w10 ⟨rfl, b10⟩; have HB10 := Lib.hid (HBh.out.trans (b10.mono HBh.out.size)); clear b10))
            go_roundw
            case rel => exact ⟨j + 1, by omega, by go_num, HB10⟩
            case measure => simp [intOf]; omega
end Go.Proofs.Ytpkkeeblgbdfdaa
