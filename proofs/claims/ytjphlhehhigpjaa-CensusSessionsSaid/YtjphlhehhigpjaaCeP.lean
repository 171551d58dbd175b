/- Layer 37: Lost of the program; the document's Events and Lost; rises. -/
import Derived.Test.YtjphlhehhigpjaaCeN
namespace Go.Proofs.Ytjphlhehhigpjaa
open Go.RowKit Go.Maps Go.WideMaps

def begB (l : List EvV) (k : Nat) (z : Int) : Bool := (l.take k).any fun x => (x.se == z) && exch37 x
def lostB (l : List EvV) : Nat → Int → Bool
  | 0, _ => false
  | k + 1, z => lostB l k z || match l[k]? with
    | some x => (x.ki == 6) && ((x.se == z) && !begB l k z)
    | none => false
def setF (p : Int → Bool) : Lit → Option Value
  | .int .i64 z => if p z = true then some (.agg #[]) else none
  | _ => none
theorem setF_key (p : Int → Bool) (z : Int) : setF p (keyI z) = if p z = true then some (.agg #[]) else none := rfl
theorem setF_put (p : Int → Bool) (a : Int) : ∀ kl, putF (setF p) (keyI a) (.agg #[]) kl = setF (fun z => p z || (z == a)) kl := fun kl => by
  by_cases h : kl = keyI a
  · subst h
    rw [putF_same (keyI_lit _), setF_key]; simp
  · rw [putF_other h]
    unfold setF
    split
    · rename_i z
      have hz : z ≠ a := fun e => h (by rw [← e]; rfl)
      show (if p z = true then _ else _) = (if (p z || (z == a)) = true then _ else _)
      rw [beq_eq_false_iff_ne.2 hz, Bool.or_false]
    · rfl
theorem setF_congr {p q : Int → Bool} (h : ∀ z, p z = q z) : ∀ kl, setF p kl = setF q kl := fun kl => by rw [show p = q from funext h]
theorem beg_next {l : List EvV} {k : Nat} (hk : k < l.length) (z : Int) : begB l (k + 1) z = (begB l k z || ((l[k]).se == z && exch37 l[k])) := by
  unfold begB
  rw [List.take_succ_eq_append_getElem hk, List.any_append]
  simp
theorem lost_next {l : List EvV} {k : Nat} (hk : k < l.length) (z : Int) : lostB l (k + 1) z = (lostB l k z || ((l[k]).ki == 6 && ((l[k]).se == z && !begB l k z))) := by
  rw [lostB, List.getElem?_eq_getElem hk]
def LostP (l : List EvV) (w : World) (e : Ending) (w' : World) : Prop := ∃ (v : Value) (L : List Int), e = .returned v ∧ IdsAt w' v L ∧ L.Pairwise (· < ·) ∧ (∀ x, x ∈ L ↔ lostB l l.length x = true) ∧ L.length ≤ l.length ∧ Below w.heap.size w w'
theorem makeSet37 (w : World) : (Instr.makeMap 67 none).run Try.prog w = .ok (.map (some w.heap.size)) (w.alloc (.map #[] 0)) := by
  simp [Instr.makeMap]
/-- While Lost runs: the two sets. -/
structure LoSt (w : World) (l : List EvV) (W : World) (p q : Int → Bool) (nb nl : Nat) : Prop where
  below : Below w.heap.size w W
  beg : MapF W Try.prog 3 w.heap.size nb (setF p)
  lost : MapF W Try.prog 3 (w.heap.size + 1) nl (setF q)
section
variable {w W : World} {l : List EvV} {p q : Int → Bool} {nb nl : Nat}
theorem LoSt.keep {W' : World} (h : LoSt w l W p q nb nl) (hb : Below W.heap.size W W') : LoSt w l W' p q nb nl :=
  ⟨h.below.trans (hb.mono h.below.size), h.beg.below hb, h.lost.below hb⟩
theorem LoSt.put1 {W' : World} {a : Int} (h : LoSt w l W p q nb nl) (hm : MapF W' Try.prog 3 w.heap.size (nb + 1) (putF (setF p) (keyI a) (.agg #[]))) (hg : W.grownBy W' (some w.heap.size)) : LoSt w l W' (fun z => p z || (z == a)) q (nb + 1) nl :=
  ⟨h.below.grown hg h.below.size (fun j hj => by cases hj; exact Nat.le_refl _), hm.congr (setF_put p a), h.lost.kept hg (by simp)⟩
theorem LoSt.put2 {W' : World} {a : Int} (h : LoSt w l W p q nb nl) (hm : MapF W' Try.prog 3 (w.heap.size + 1) (nl + 1) (putF (setF q) (keyI a) (.agg #[]))) (hg : W.grownBy W' (some (w.heap.size + 1))) : LoSt w l W' p (fun z => q z || (z == a)) nb (nl + 1) :=
  ⟨h.below.grown hg h.below.size (fun j hj => by cases hj; exact Nat.le_add_right _ _), h.beg.kept hg (by simp), hm.congr (setF_put q a)⟩
theorem LoSt.as {p' q' : Int → Bool} (h : LoSt w l W p q nb nl) (hp : ∀ z, p z = p' z) (hq : ∀ z, q z = q' z) : LoSt w l W p' q' nb nl := by
  rw [← show p = p' from funext hp, ← show q = q' from funext hq]; exact h
end
set_option maxHeartbeats 8000000 in
set_option maxRecDepth 100000 in
theorem lost_any {w : World} {v : Value} {l : List EvV} (h : EventsAt w v l) (hl : l.length ≤ 900) (ho : ∀ x ∈ l, ∀ u ∈ x.row.toList, CellOk u) : Calls Try.prog 15 #[v] w (LostP l w) := by
  obtain ⟨ao, cap, rfl, hc⟩ := h
  have hmm := makeSet37
  have HC := Lib.hid hc
  have HO := Lib.hid ho
  have HEx : Hid (∀ x : EvV, ∀ W, Calls Try.prog 23 #[.agg x.row] W fun e w' => e = .returned (.bool (exch37 x)) ∧ Below W.heap.size W w') := fun x W => cnIsEx_any x W
  clear hc ho
  go_enter Try.func15, Try.ntmps15
  go_wp2_with fail
  have HS0 : Hid (LoSt w l ((w.alloc (.map #[] 0)).alloc (.map #[] 0)) (begB l 0) (lostB l 0) 0 0) := by
    have h2 := (MapF.made (w.alloc (.map #[] 0)) Try.prog 3)
    rw [World.size_alloc] at h2
    exact ⟨((Below.refl _ _).alloc (Nat.le_refl _) _).alloc (by simp only [World.size_alloc]; omega) _, ((MapF.made w Try.prog 3).below ((Below.refl _ _).alloc (Nat.le_refl _) _)).congr (fun kl => by unfold setF; split <;> rfl), h2.congr (fun kl => by unfold setF; split <;> rfl)⟩
  go_loopw [13] (fun i wr => ∃ k nb nl : Nat, k ≤ l.length ∧ i = .int .i64 k ∧ nb ≤ k ∧ nl ≤ k ∧ Hid (LoSt w l wr (begB l k) (lostB l k) nb nl)) (fun i _ => l.length - (intOf i).toNat)
  case atStart => exact ⟨0, 0, 0, Nat.zero_le _, rfl, Nat.le_refl _, Nat.le_refl _, HS0⟩
  case round =>
  obtain ⟨k, nb, nl, hk, rfl, hnb, hnl, HS⟩ := hrel
  clear HS0
  by_cases hlt : k < l.length
  · obtain ⟨b, off, rfl, hb, hcell⟩ := HC.out (by intro h; simp [h] at hlt)
    have hki : (k : Int) < (l.length : Int) := by omega
    have HL : Hid (∀ j u, (l[k]).row[j]? = some u → wr.cell? ((⟨b, off + k * 34, none⟩ : Addr).add j) = some u) := fun j u hj => by
      rw [Addr.add_lit]
      exact (HS.out.below.cell (p := ⟨b, off + k * 34 + j, none⟩) hb).trans (hcell k _ (List.getElem?_eq_getElem hlt) j u hj)
    have HR5 : Hid ((l[k]).row.size = 34 ∧ (l[k]).row.all (·.oneCell') = true) := ⟨rfl, EvV.row_one _⟩
    have HK0 : Hid ((l[k]).row[0]? = some (.int .i64 (l[k]).ki) ∧ (l[k]).row[1]? = some (.int .i64 (l[k]).se)) := ⟨EvV.row_ki _, EvV.row_se _⟩
    have hkey := keyI_ok (EvV.ok_se (HO.out _ (List.getElem_mem hlt)))
    have HEk := Lib.hid (HEx.out l[k])
    have HBn : Hid (∀ z, begB l (k + 1) z = (begB l k z || ((l[k]).se == z && exch37 l[k]))) := fun z => beg_next hlt z
    have HLn : Hid (∀ z, lostB l (k + 1) z = (lostB l k z || ((l[k]).ki == 6 && ((l[k]).se == z && !begB l k z)))) := fun z => lost_next hlt z
    have HXx : Hid (exch37 l[k] = (((l[k]).ki == 1) || ((l[k]).ki == 2))) := rfl
    clear hcell HC HO hb HEx
    generalize exch37 l[k] = ex at *
    generalize (l[k]).ki = ki at *
    generalize (l[k]).se = se at *
    generalize (l[k]).row = R at *
    generalize begB l k = p0 at *
    generalize lostB l k = q0 at *
    go_upto_region 6 with (first
      | (refine wpList_load_cells rfl 46 _ rfl ⟨b, off + k * 34, none⟩ rfl R _ HL.out Try.underlying46 rfl (by rw [HR5.out.1]; exact sizeEvent) ?_)
      | (refine wpList_store_new rfl 46 _ _ rfl wr.heap.size _ R 46 rfl rfl rfl (by rw [HR5.out.1]; exact sizeEvent) (by rw [HR5.out.1]; rfl) HR5.out.2 ?_))
    obtain ⟨E, hE⟩ : ∃ E, Hid (E = wr.heap.size) := ⟨_, Lib.hid rfl⟩
    have HS1 := Lib.hid (HS.out.keep ((Below.refl _ _).alloc (Nat.le_refl _) (.cells R 46)))
    have HE0 : Hid (Holds (wr.alloc (.cells R 46)) E 46 R) := by
      show Holds _ E _ _
      rw [hE.out]; exact Holds.new wr 46 R
    have hEn : w.heap.size + 1 < E := by rw [hE.out]; exact HS.out.lost.lt
    rw [← hE.out]
    clear HL hE HS
    generalize wr.alloc (.cells R 46) = W at *
    have HCl : Hid (∀ W, Holds W E 46 R → W.cell? ⟨E, 0, none⟩ = some (.int .i64 ki) ∧ W.cell? ⟨E, 1, none⟩ = some (.int .i64 se)) := fun W h => ⟨(h.cell 0).trans HK0.out.1, (h.cell 1).trans HK0.out.2⟩
    have HSz : Hid ((Try.prog.info? 46).map (·.size) = some R.size) := by show _ = _; rw [HR5.out.1]; exact sizeEvent
    clear HK0 HR5
    have tok : Hid True := trivial
    cases ex with
    | true =>
      have q6 : (ki == 6) = false := by
        have h := HXx.out
        rw [beq_eq_false_iff_ne]
        rintro rfl
        cases h
      have HB2 : Hid (∀ z, (p0 z || (z == se)) = begB l (k + 1) z) := fun z => by rw [HBn.out, Bool.and_true, Bool.beq_comm]
      have HL2 : Hid (∀ z, q0 z = lostB l (k + 1) z) := fun z => by rw [HLn.out, q6]; simp
      clear HBn HLn HXx
      go_upto_region 8 with (first
        | (clear tok; refine wpList_load_row rfl 46 _ rfl E rfl 46 R (0, 0) _ (by exact HE0.out) Try.underlying46 rfl (by exact HSz.out) ?_)
        | (go_at_call 23; (with_reducible refine (HEk.out _).mono ?_); rintro e w5 ⟨rfl, b5⟩; have HS5 := Lib.hid (HS1.out.keep b5); have HE5 : Hid (Holds w5 E 46 R) := Lib.hid ((b5.block _ HE0.out.lt).trans HE0.out); have x1 := (HCl.out _ HE5.out).2; clear b5)
        | (refine wpList_put rfl _ _ _ 67 rfl HS5.out.beg lawInt31 Try.underlying67 (by unfold maxLen; omega) rfl _ _ _ rfl rfl hkey ?_; intro w6 hm6 hg6; have HS6 := Lib.hid (HS5.out.put1 hm6 hg6); have HE6 : Hid (Holds w6 E 46 R) := Lib.hid ((hg6.block _ HE5.out.lt (fun e => by cases e; omega)).trans HE5.out); clear hm6 hg6))
      have HSa := Lib.hid (HS6.out.as HB2.out HL2.out)
      have hlk : (Instr.lookup 67 (.map (some w.heap.size)) (.int .i64 se) true).run Try.prog w6 = .ok (.tuple #[.agg #[], .bool true]) w6 := (HS6.out.beg.look_ok lawInt31 Try.underlying67 (zeroUnit31 w6) hkey).trans (by rw [setF_key]; simp)
      have y0 := (HCl.out _ HE6.out).1
      have y1 := (HCl.out _ HE6.out).2
      clear HS1 HS5 HE0 HE5 HS6 HB2 HL2 x1
      have HSb := Lib.hid (HSa.out.keep ((Below.refl _ _).alloc (Nat.le_refl _) (.cells #[] 68)))
      have z0 := (HCl.out _ ((Below.heap_alloc w6 (.cells #[] 68) _ HE6.out.lt).trans HE6.out)).1
      go_wp2_with fail
      go_roundw
      case rel => exact ⟨k + 1, nb + 1, nl, by omega, by go_num, by omega, by omega, HSb⟩
      case measure => simp [intOf]; omega
    | false =>
      have HB2 : Hid (∀ z, p0 z = begB l (k + 1) z) := fun z => by rw [HBn.out, Bool.and_false, Bool.or_false]
      clear HBn HXx
      go_upto_region 8 with (first
        | (clear tok; refine wpList_load_row rfl 46 _ rfl E rfl 46 R (0, 0) _ (by exact HE0.out) Try.underlying46 rfl (by exact HSz.out) ?_)
        | (go_at_call 23; (with_reducible refine (HEk.out _).mono ?_); rintro e w5 ⟨rfl, b5⟩; have HS5 := Lib.hid (HS1.out.keep b5); have HE5 : Hid (Holds w5 E 46 R) := Lib.hid ((b5.block _ HE0.out.lt).trans HE0.out); have x1 := (HCl.out _ HE5.out).2; clear b5))
      obtain ⟨is, his⟩ : ∃ is, Hid (p0 se = is) := ⟨_, Lib.hid rfl⟩
      have hlk : (Instr.lookup 67 (.map (some w.heap.size)) (.int .i64 se) true).run Try.prog w5 = .ok (.tuple #[.agg #[], .bool is]) w5 := (HS5.out.beg.look_ok lawInt31 Try.underlying67 (zeroUnit31 w5) hkey).trans (by rw [setF_key, his.out]; cases is <;> rfl)
      have HSb := Lib.hid (HS5.out.keep ((Below.refl _ _).alloc (Nat.le_refl _) (.cells #[] 68)))
      have HE6 : Hid (Holds (w5.alloc (.cells #[] 68)) E 46 R) := Lib.hid ((Below.heap_alloc w5 (.cells #[] 68) _ HE5.out.lt).trans HE5.out)
      have y0 := (HCl.out _ HE5.out).1
      have z0 := (HCl.out _ HE6.out).1
      have z1 := (HCl.out _ HE6.out).2
      clear HS1 HS5 HE0 HE5
      by_cases h6 : ki = 6
      case neg =>
        have q6 : (ki == 6) = false := beq_eq_false_iff_ne.2 h6
        have HL2 : Hid (∀ z, q0 z = lostB l (k + 1) z) := fun z => by rw [HLn.out, q6]; simp
        have HSc := Lib.hid (HSb.out.as HB2.out HL2.out)
        clear HLn HSb HB2 HL2 h6
        go_wp2_with fail
        go_roundw
        case rel => exact ⟨k + 1, nb, nl, by omega, by go_num, by omega, by omega, HSc⟩
        case measure => simp [intOf]; omega
      subst h6
      cases is with
      | true =>
        have HL2 : Hid (∀ z, q0 z = lostB l (k + 1) z) := fun z => by
          rw [HLn.out]
          by_cases h : se = z
          · rw [← h, his.out]; simp
          · rw [beq_eq_false_iff_ne.2 h]; simp
        have HSc := Lib.hid (HSb.out.as HB2.out HL2.out)
        clear HLn HSb HB2 HL2 his
        go_wp2_with fail
        go_roundw
        case rel => exact ⟨k + 1, nb, nl, by omega, by go_num, by omega, by omega, HSc⟩
        case measure => simp [intOf]; omega
      | false =>
        have HL2 : Hid (∀ z, (q0 z || (z == se)) = lostB l (k + 1) z) := fun z => by
          rw [HLn.out]
          by_cases h : se = z
          · rw [← h, his.out]; simp
          · rw [beq_eq_false_iff_ne.2 h, beq_eq_false_iff_ne.2 (Ne.symm h)]; simp
        clear HLn his
        go_wp2_with (first
          | (refine wpList_put rfl _ _ _ 67 rfl HSb.out.lost lawInt31 Try.underlying67 (by unfold maxLen; omega) rfl _ _ _ rfl rfl hkey ?_; intro w7 hm7 hg7; have HSc := Lib.hid ((HSb.out.put2 hm7 hg7).as HB2.out HL2.out); clear hm7 hg7))
        go_roundw
        case rel => exact ⟨k + 1, nb, nl + 1, by omega, by go_num, by omega, by omega, HSc⟩
        case measure => simp [intOf]; omega
  have hkl : k = l.length := by omega
  subst hkl
  clear hlt HC HO HEx
  go_wp2_with (first
    | (go_at_call 32; (with_reducible refine (ascF1_any HS.out.lost (by omega)).mono ?_); rintro e w2 ⟨v2, L, rfl, hi, hp, hmm2, hln, b2⟩))
  go_ret
  exact ⟨v2, L, rfl, hi, hp, fun x => (hmm2 x).trans (by rw [setF_key]; split <;> simp_all), by omega, HS.out.below.trans (b2.mono HS.out.below.size)⟩
end Go.Proofs.Ytjphlhehhigpjaa
