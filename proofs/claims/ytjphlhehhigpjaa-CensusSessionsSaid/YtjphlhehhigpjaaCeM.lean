/- Layer 37: how many events each session has: the program's perSession. -/
import Derived.Test.YtjphlhehhigpjaaRgM
import Derived.Test.YtjphlhehhigpjaaEv2s
namespace Go.Proofs.Ytjphlhehhigpjaa
open Go.RowKit Go.Maps Go.WideMaps

/-- An event of a session, that is none of a key that was taken. -/
def evP (z : Int) (e : EvV) : Bool := !(e.ki == 7) && (e.se == z)
def evN (l : List EvV) (z : Int) (k : Nat) : Nat := (l.take k).countP (evP z)
/-- A map of counts, as a function of its keys. -/
def cntF (l : List EvV) (k : Nat) : Lit → Option Value
  | .int .i64 z => if 0 < evN l z k then some (.int .i64 ((evN l z k : Nat) : Int)) else none
  | _ => none
theorem cntF_key (l : List EvV) (k : Nat) (z : Int) : cntF l k (keyI z) = if 0 < evN l z k then some (.int .i64 ((evN l z k : Nat) : Int)) else none := rfl
theorem evN_next {l : List EvV} {k : Nat} (hk : k < l.length) (z : Int) : evN l z (k + 1) = evN l z k + if evP z l[k] = true then 1 else 0 := by
  unfold evN
  rw [List.take_succ_eq_append_getElem hk, List.countP_append, List.countP_cons, List.countP_nil]
  omega
theorem evN_le (l : List EvV) (z : Int) (k : Nat) : evN l z k ≤ l.length :=
  Nat.le_trans List.countP_le_length (List.length_take_le' _ _)
theorem MapF.congr {w : World} {P : Program} {t : TypeId} {b n : Nat} {f g : Lit → Option Value} (h : MapF w P t b n f) (e : ∀ kl, f kl = g kl) : MapF w P t b n g := by
  have : f = g := funext e
  rw [← this]; exact h
theorem cntF_skip {l : List EvV} {k : Nat} (hk : k < l.length) (h7 : (l[k]).ki = 7) : ∀ kl, cntF l k kl = cntF l (k + 1) kl := fun kl => by
  have e : ∀ z, evN l z (k + 1) = evN l z k := fun z => by rw [evN_next hk, if_neg (by unfold evP; rw [h7]; simp)]; omega
  unfold cntF
  split
  · rw [e]
  · rfl
theorem cntF_put {l : List EvV} {k : Nat} (hk : k < l.length) (h7 : (l[k]).ki ≠ 7) : ∀ kl, putF (cntF l k) (keyI (l[k]).se) (.int .i64 ((evN l (l[k]).se k : Nat) + 1 : Int)) kl = cntF l (k + 1) kl := fun kl => by
  by_cases h : kl = keyI (l[k]).se
  · subst h
    have e : evN l (l[k]).se (k + 1) = evN l (l[k]).se k + 1 := by rw [evN_next hk, if_pos (by unfold evP; rw [beq_eq_false_iff_ne.2 h7]; simp)]
    rw [putF_same (keyI_lit _), cntF_key, e, if_pos (by omega)]
    simp
  · rw [putF_other h]
    unfold cntF
    split
    · rename_i z
      have hz : z ≠ (l[k]).se := fun e => h (by rw [← e]; rfl)
      have e : evN l z (k + 1) = evN l z k := by rw [evN_next hk, if_neg (by unfold evP; rw [beq_eq_false_iff_ne.2 (Ne.symm hz)]; simp)]; omega
      rw [e]
    · rfl
theorem makeMapI (w : World) : (Instr.makeMap 65 none).run Try.prog w = .ok (.map (some w.heap.size)) (w.alloc (.map #[] 0)) := by
  simp [Instr.makeMap]
set_option maxHeartbeats 8000000 in
set_option maxRecDepth 100000 in
theorem per_any {w : World} {v : Value} {l : List EvV} (h : EventsAt w v l) (hl : l.length ≤ 900) (ho : ∀ x ∈ l, ∀ u ∈ x.row.toList, CellOk u) :
    Calls Try.prog 31 #[v] w fun e w' => e = .returned (.map (some w.heap.size)) ∧ (∃ n, n ≤ l.length ∧ MapF w' Try.prog 3 w.heap.size n (cntF l l.length)) ∧ Below w.heap.size w w' := by
  obtain ⟨ao, cap, rfl, hc⟩ := h
  have hmm := makeMapI
  have HC := Lib.hid hc
  have HO := Lib.hid ho
  clear hc ho
  go_enter Try.func31, Try.ntmps31
  go_wp2_with fail
  go_loopw [9] (fun i wr => ∃ k n : Nat, k ≤ l.length ∧ i = .int .i64 k ∧ n ≤ k ∧ Hid (MapF wr Try.prog 3 w.heap.size n (cntF l k)) ∧ Hid (Below w.heap.size w wr)) (fun i _ => l.length - (intOf i).toNat)
  case atStart => exact ⟨0, 0, Nat.zero_le _, rfl, Nat.le_refl _, Lib.hid ((MapF.made w _ _).congr (fun kl => by unfold cntF; split <;> rfl)), Lib.hid ((Below.refl _ _).alloc (Nat.le_refl _) _)⟩
  case round =>
    obtain ⟨k, n, hk, rfl, hn, HM, HB⟩ := hrel
    by_cases hlt : k < l.length
    · obtain ⟨b, off, rfl, hb, hcell⟩ := HC.out (by intro h; simp [h] at hlt)
      have hki : (k : Int) < (l.length : Int) := by omega
      have HL : Hid (∀ j u, (l[k]).row[j]? = some u → wr.cell? ((⟨b, off + k * 34, none⟩ : Addr).add j) = some u) := fun j u hj => by
        rw [Addr.add_lit]
        exact (HB.out.cell (p := ⟨b, off + k * 34 + j, none⟩) hb).trans (hcell k _ (List.getElem?_eq_getElem hlt) j u hj)
      have HS : Hid ((l[k]).row.size = 34 ∧ (l[k]).row.all (·.oneCell') = true) := ⟨rfl, EvV.row_one _⟩
      have HK0 : Hid ((l[k]).row[0]? = some (.int .i64 (l[k]).ki) ∧ (l[k]).row[1]? = some (.int .i64 (l[k]).se)) := ⟨EvV.row_ki _, EvV.row_se _⟩
      have hkey := keyI_ok (EvV.ok_se (HO.out _ (List.getElem_mem hlt)))
      have HSk : Hid ((l[k]).ki = 7 → ∀ kl, cntF l k kl = cntF l (k + 1) kl) := fun e => cntF_skip hlt e
      have HPt : Hid ((l[k]).ki ≠ 7 → ∀ kl, putF (cntF l k) (keyI (l[k]).se) (.int .i64 ((evN l (l[k]).se k : Nat) + 1 : Int)) kl = cntF l (k + 1) kl) := fun e => cntF_put hlt e
      have hev := evN_le l (l[k]).se k
      have HLk : Hid ((cntF l k (keyI (l[k]).se)).getD (.int .i64 0) = .int .i64 ((evN l (l[k]).se k : Nat) : Int)) := by
        show _ = _
        rw [cntF_key]
        split
        · rfl
        · rename_i h0; rw [show evN l (l[k]).se k = 0 by omega]; rfl
      clear hcell HC HO hb
      generalize (l[k]).ki = ki at *
      generalize hse : (l[k]).se = se at *
      generalize (l[k]).row = R at *
      generalize evN l se k = ev at *
      go_upto_region 5 with (first
        | (refine wpList_load_cells rfl 46 _ rfl ⟨b, off + k * 34, none⟩ rfl R _ HL.out Try.underlying46 rfl (by rw [HS.out.1]; exact sizeEvent) ?_)
        | (refine wpList_store_new rfl 46 _ _ rfl wr.heap.size _ R 46 rfl rfl rfl (by rw [HS.out.1]; exact sizeEvent) (by rw [HS.out.1]; rfl) HS.out.2 ?_))
      obtain ⟨E, hE⟩ : ∃ E, Hid (E = wr.heap.size) := ⟨_, Lib.hid rfl⟩
      have HM1 := Lib.hid (HM.out.below ((Below.refl _ _).alloc (Nat.le_refl _) (.cells R 46)))
      have HB1 := Lib.hid (HB.out.alloc HB.out.size (.cells R 46))
      have HE0 : Hid (Holds (wr.alloc (.cells R 46)) E 46 R) := by
        show Holds _ E _ _
        rw [hE.out]; exact Holds.new wr 46 R
      have x0 := (HE0.out.cell 0).trans HK0.out.1
      have x1 := (HE0.out.cell 1).trans HK0.out.2
      rw [← hE.out]
      clear HL HK0 hE HM HB HE0 HS
      generalize wr.alloc (.cells R 46) = W at *
      by_cases h7 : ki = 7
      · subst h7
        have HF := Lib.hid (HM1.out.congr (HSk.out rfl))
        clear HSk HPt HLk HM1
        go_wp2_with fail
        go_roundw
        case rel => exact ⟨k + 1, n, by omega, by go_num, by omega, HF, HB1⟩
        case measure => simp [intOf]; omega
      · have q7 : (ki != 7) = true := by rw [bne, beq_eq_false_iff_ne.2 h7]; rfl
        have HPk := Lib.hid (HPt.out h7)
        clear HSk HPt h7
        have hlk : (Instr.lookup 65 (.map (some w.heap.size)) (.int .i64 se) false).run Try.prog W = .ok (.int .i64 (ev : Int)) W := (HM1.out.look lawInt31 Try.underlying65 (zeroInt32 W) hkey).trans (by rw [HLk.out])
        have hevb : (ev : Int) ≤ 900 := by omega
        go_wp2_with (first
          | (refine wpList_put rfl _ _ _ 65 rfl HM1.out lawInt31 Try.underlying65 (by unfold maxLen; omega) rfl _ _ _ rfl rfl hkey ?_; intro w5 hm5 hg5; have HM5 := Lib.hid (hm5.congr HPk.out); have HG5 := Lib.hid hg5; clear hm5 hg5))
        have B5 : Hid (Below w.heap.size w w5) := Lib.hid (HB1.out.grown HG5.out HB1.out.size (fun j hj => by cases hj; exact Nat.le_refl _))
        go_roundw
        case rel => exact ⟨k + 1, n + 1, by omega, by go_num, by omega, HM5, B5⟩
        case measure => simp [intOf]; omega
    · have hkl : k = l.length := by omega
      subst hkl
      clear hlt HC HO
      go_wp2_with fail
      go_ret
      exact ⟨rfl, ⟨n, hn, HM.out⟩, HB.out⟩
end Go.Proofs.Ytjphlhehhigpjaa
