/- The statement SealTerms is proved (its tied card): for every string and every uint32 the call returns true and leaves its arguments as they were; the six listed variables are tied to the program's text. -/
import Derived.LaidMore
import Derived.Lay
import Derived.SevenTiedAt
import Derived.Stop.Joined
import Derived.Test.YtlalkpgipenkaaaGreatDoorPk00
import Derived.Test.YtlalkpgipenkaaaGreatDoorPk27
import Derived.Test.YtlalkpgipenkaaaGreatDoorPk36
import Derived.Test.YtlalkpgipenkaaaGreatDoorPk37
namespace Go.Proofs.YtlalkpgipenkaaaGreatDoor.sealTerms
open Go.ChangeShapes Go.WideShapes Go.ChangeAt Go.RowKit
open Go.ChangeMaps (open_string)

set_option maxRecDepth 100000 in
theorem walk (s : ByteArray) (hs : s.size ≤ maxLen) (n : Int) {w : World} (hT : TabAt w) (hV : VarAt w) : Calls Tryz.prog 5 #[.string s, .int .u32 n] w fun e w' => e = .returned (.bool true) ∧ Below w.heap.size w w' := by
  have hgm := hV.pos
  by_cases h : s.size ≤ 600
  · have := SealTerms_given (w := w) s.data.toList (by rw [Array.length_toList]; exact h) n (fun W hW => awake12_any (hT.below hW) (hV.below hW hgm))
    rwa [bs_list] at this
  · unfold maxLen at hs
    have HAw := Lib.hid (awake12_any hT hV)
    have q0 : decide ((s.size : Int) > 600) = true := decide_eq_true (by omega)
    clear hT hV
    go_enter Tryz.func5, Tryz.ntmps5
    go_wp2_with (go_at_call 17; refine HAw.out.mono ?_; rintro e w1 ⟨rfl, b1⟩)
    go_ret
    exact ⟨rfl, b1⟩

theorem recs : ∀ t ∈ ([9, 42] : List TypeId), Tryz.prog.readableRec t = true ∧ t < Tryz.prog.types.size := by
  intro t ht
  simp only [List.mem_cons, List.not_mem_nil, or_false] at ht
  rcases ht with rfl | rfl
  all_goals exact ⟨by kernel_rfl, of_decide_eq_true (by kernel_rfl)⟩

set_option maxRecDepth 100000 in
theorem lifted (os : Os) (started : os.Started) (H : Type) (enc : TypeId × Value → H) :
    ReturnsInHanded {} Tryz.checked os 5 .any (fun w args => (Rows.sealTermsSpec.pre enc Tryz.prog Tryz.f5 Rows.sealTermsRow.domain false w args ∧ laidMetH Tryz.prog both.laid w) ∧ sizedMet enc Tryz.prog Tryz.f5 (OpenSpec.ofChange Rows.sealTermsSpec) false w args)
      (Rows.sealTermsSpec.post enc Tryz.prog Tryz.f5 false true false false) := by
  refine both.handed_both (C := Tryz.checked) (X := fun w _ => laidMetH Tryz.prog both.laid w) (fun _ _ _ hh h => h.of_heap hh) ownKnobOf started (by kernel_rfl) Tryz.func5
    (ChangeSpec.witness_shaped (enc := enc) (C := Tryz.checked) (os := os) (X := fun w _ => laidMetH Tryz.prog both.laid w) false (World.laidAll Tryz.prog os both.laid) #[.string ⟨#[]⟩, .int .u32 0] 8 (World.laidAll_os _ _ _)
      (World.shaped_of_ZipB (by kernel_rfl) (by kernel_rfl)) (by kernel_rfl) (by kernel_rfl) (by kernel_rfl) (both.laid_met os _)) ?_
  intro W base args ds gs before hval0 hW hsh hL
  have hL2 : laidMet Tryz.prog both.laid W := by
    have h := hL
    rwa [MakeChecks.laidMetH_plain _ _ _ (by kernel_rfl)] at h
  have hTab := tabAt_of_laid (both.laidMet_tail (both.laidMet_tail (both.laidMet_tail hL2)))
  have hval : ∀ (j : Nat) t v, Tryz.f5.params[j]? = some t → args[j]? = some v → Value.okWide Tryz.prog W .any base t v := hval0
  have hW' := hW
  obtain ⟨p, q, hA0, hV, rfl, _, _⟩ := hW
  have hA : DataW.TrodAll enc Tryz.prog W 0 (fun _ => true) true Tryz.f5.params.toList args.toList ds p := hA0
  obtain ⟨rfl, rfl⟩ := trodVars_none hV
  have hltp : ∀ x ∈ p, x.block < W.heap.size := fun x hx => hW'.lt x (by simpa using hx)
  have hA2 := hA
  rw [Tryz.params5] at hA hval
  obtain ⟨v0, vs0, d0, ds0, p0, q0, hargs, rfl, rfl, h0, r0⟩ := trodAll_cons hA
  obtain ⟨v1, vs1, d1, ds1, p1, q1, rfl, rfl, rfl, h1, r1⟩ := trodAll_cons r0
  obtain ⟨rfl, rfl, rfl⟩ := trodAll_nil r1
  obtain rfl : args = #[v0, v1] := by cases args; simp_all
  obtain ⟨s, rfl, _, _, hs⟩ := open_string Tryz.underlying9 (hval 0 9 v0 rfl rfl) h0
  obtain ⟨a1, rfl, _, _, _⟩ := open_int Tryz.underlying42 (hval 1 42 v1 rfl rfl) h1
  clear hA0 hval0
  simp only [List.append_nil] at hW'
  refine (walk s hs a1 hTab (maxLen_cell hsh)).mono fun e W' ⟨he, hg⟩ => ?_
  subst he
  exact ⟨_, rfl, post_of_below (pa := _) (pv := []) hW' (fun _ _ _ => (trodAll_cons_mk (shut_bool Tryz.underlying4 _) trodAll_mk0)) (fun sp hsp => trodAll_stays laidAll hg recs hA2 hltp sp (fun x hx => hsp x (by simpa using hx))) (fun _ _ => rfl) (by simp)
    hg (ok_one (by kernel_rfl) rfl (okWide_bool_mk Tryz.underlying4 _))⟩

theorem over : Rows.sealTermsRow.holds Tryz.pinned (OpenSpec.ofChange Rows.sealTermsSpec) :=
  OpenClaim.holds_of_wide 5 Tryz.f5 rfl rfl rfl rfl rfl rfl rfl ⟨rfl, rfl, rfl, rfl, rfl⟩ rfl rfl rfl rfl rfl (by kernel_rfl) Tryz.func5 (by kernel_rfl)
    (of_decide_eq_true (by kernel_rfl)) (by unfold Func.isWrapper; first | (rw [if_pos (by decide +kernel)]; kernel_rfl) | (rw [if_neg (by decide +kernel)]; exact ⟨rfl, rfl⟩))
    (fun os started H enc _ => lifted os started H enc)

theorem proved : Rows.SealTermsCardSaid :=
  Claim7.holds_tied_plain_at .later [] [.data, .data, .data, .data, .data, .pinned] true (true, "3c32294fd55963fdf5594f83e9d734c265e22359684108d935e2171774ccf7ee") false over (fun _ h => by cases h) (by kernel_rfl) (fun _ h => by cases h) sealTerms_row_tie rfl ⟨rfl, rfl⟩ (by kernel_rfl) rfl
    (fun f fn hf hfn => by
      obtain rfl : f = 5 := Option.some.inj ((show Tryz.prog.funcNamed "shibboleth/shibbolethlaw12.SealTerms" = some 5 by kernel_rfl).symm.trans hf) |>.symm
      obtain rfl : fn = Tryz.f5 := (Option.some.inj (Tryz.func5.symm.trans hfn)).symm
      exact ⟨by kernel_rfl, fun j t ht => by
        rw [Tryz.params5] at ht
        have hm : t ∈ [9, 42] := by simpa using Array.mem_of_getElem? ht
        have hall : ([9, 42].all fun u => !Tryz.prog.wantsStandIn u) = true := by kernel_rfl
        exact (show Tryz.prog.wantsStandIn t = false by simpa using List.all_eq_true.1 hall t hm)⟩)
    (by kernel_rfl)
#print axioms proved
end Go.Proofs.YtlalkpgipenkaaaGreatDoor.sealTerms
