/- The statement NamesWithout is proved: for every two lists of names the call returns true and leaves its arguments as they were; no condition. -/
import Derived.Test.YtfbegkmogdjaiaaRows
import Derived.Test.YtfbegkmogdjaiaaNLawFirst
import Derived.Test.YtfbegkmogdjaiaaNArgs
namespace Go.Proofs.Ytfbegkmogdjaiaa.namesWithout
open Go.ChangeShapes Go.WideShapes Go.ChangeAt Go.RowKit

set_option maxRecDepth 100000 in
theorem walk (l o : List ByteArray) (hlm : l.length ≤ maxLen) (hom : o.length ≤ maxLen) (hs : ∀ y ∈ l, y.size ≤ maxLen) (hs' : ∀ y ∈ o, y.size ≤ maxLen) (v v' : Value) (w : World) (h : TextsAt w v l) (h' : TextsAt w v' o) :
    Calls Try.prog 4 #[v, v'] w fun e w' => e = .returned (.bool true) ∧ Below w.heap.size w w' := by
  have HF1 := Lib.hid (few_any h hlm hs 20)
  have HF2 := Lib.hid (few_any h' hom hs' 20)
  have HAW := Lib.hid awake4_any
  cases f1 : fewB l 20 with
  | false =>
    rw [f1] at HF1
    obtain ⟨ao, cap, rfl, hc⟩ := h
    obtain ⟨ao', cap', rfl, hc'⟩ := h'
    clear hc hc' hs hs'
    go_enter Try.func4, Try.ntmps4
    go_wp2_with (first
      | (go_at_call 5; with_reducible refine (HF1.out).mono ?_; rintro e w1 ⟨rfl, rfl⟩)
      | (go_at_call 6; refine (HAW.out _).mono ?_; rintro e w3 ⟨rfl, hb3⟩))
    go_ret
    exact ⟨rfl, hb3⟩
  | true =>
    cases f2 : fewB o 20 with
    | false =>
      rw [f1] at HF1
      rw [f2] at HF2
      obtain ⟨ao, cap, rfl, hc⟩ := h
      obtain ⟨ao', cap', rfl, hc'⟩ := h'
      clear hc hc' hs hs'
      go_enter Try.func4, Try.ntmps4
      go_wp2_with (first
        | (go_at_call 5; with_reducible refine (HF1.out).mono ?_; rintro e w1 ⟨rfl, rfl⟩)
        | (go_at_call 5; with_reducible refine (HF2.out).mono ?_; rintro e w1 ⟨rfl, rfl⟩)
        | (go_at_call 6; refine (HAW.out _).mono ?_; rintro e w3 ⟨rfl, hb3⟩))
      go_ret
      exact ⟨rfl, hb3⟩
    | true =>
      have g1 := of_decide_eq_true f1
      have g2 := of_decide_eq_true f2
      exact NamesWithout_small l o (by omega) (by omega) g1.2 g2.2 v v' w h h'

theorem recs : ∀ t ∈ ([22, 22] : List TypeId), Try.prog.readableRec t = true ∧ t < Try.prog.types.size := by
  intro t ht
  simp only [List.mem_cons, List.not_mem_nil, or_false] at ht
  rcases ht with rfl | rfl
  · exact ⟨by kernel_rfl, of_decide_eq_true (by kernel_rfl)⟩
  · exact ⟨by kernel_rfl, of_decide_eq_true (by kernel_rfl)⟩

set_option maxRecDepth 100000 in
theorem lifted (os : Os) (started : os.Started) (H : Type) (enc : TypeId × Value → H) :
    ReturnsInHanded {} Try.checked os 4 .any (Rows.namesWithoutSpec.pre6 enc Try.prog Try.f4 Rows.namesWithoutRow.domain false) (Rows.namesWithoutSpec.post enc Try.prog Try.f4 false true false false) := by
  refine returnsInHanded_of_change (C := Try.checked) ownKnobOf started (by kernel_rfl) Try.func4
    (ChangeSpec.witness6 (enc := enc) (C := Try.checked) false ⟨#[], #[.slice none 0 0, .slice none 0 0], []⟩ 8 (by kernel_rfl) (by kernel_rfl) (by kernel_rfl) (by kernel_rfl)) ?_
  intro W base args ds gs before hval0 hW _ _
  have hval : ∀ (j : Nat) t v, Try.f4.params[j]? = some t → args[j]? = some v → Value.okWide Try.prog W .any base t v := hval0
  have hW' := hW
  obtain ⟨p, q, hA0, hV, rfl, _, _⟩ := hW
  have hA : DataW.TrodAll enc Try.prog W 0 (fun _ => true) true Try.f4.params.toList args.toList ds p := hA0
  obtain ⟨rfl, rfl⟩ := trodVars_none hV
  have hltp : ∀ x ∈ p, x.block < W.heap.size := fun x hx => hW'.lt x (by simpa using hx)
  have hA2 := hA
  rw [Try.params4] at hA hval
  obtain ⟨v0, vs0, d0, ds0, p0, q0, hargs, rfl, rfl, h0, r0⟩ := trodAll_cons hA
  obtain ⟨v1, vs1, d1, ds1, p1, q1, rfl, rfl, rfl, h1, r1⟩ := trodAll_cons r0
  obtain ⟨rfl, rfl, rfl⟩ := trodAll_nil r1
  obtain rfl : args = #[v0, v1] := by cases args; simp_all
  obtain ⟨l, hl, hlm, hls, _⟩ := open_texts (hval 0 22 v0 rfl rfl) h0
  obtain ⟨o, ho, hom, hos, _⟩ := open_texts (hval 1 22 v1 rfl rfl) h1
  clear hA0 hval0
  simp only [List.append_nil] at hW'
  refine (walk l o hlm hom hls hos v0 v1 W hl ho).mono fun e W' ⟨he, hg⟩ => ?_
  subst he
  exact ⟨_, rfl, post_of_below (pa := _) (pv := []) hW' (fun _ _ _ => (trodAll_cons_mk (shut_bool Try.underlying4 _) trodAll_mk0)) (fun sp hsp => trodAll_stays laidAll hg recs hA2 hltp sp (fun x hx => hsp x (by simpa using hx))) (fun _ _ => rfl) (by simp)
    hg (ok_one (by kernel_rfl) rfl (okWide_bool_mk Try.underlying4 _))⟩

theorem over : Rows.namesWithoutRow.holds Try.pinned (OpenSpec.ofChange Rows.namesWithoutSpec) :=
  OpenClaim.holds_of_wide 4 Try.f4 rfl rfl rfl rfl rfl rfl rfl ⟨rfl, rfl, rfl, rfl, rfl⟩ rfl rfl rfl rfl rfl (by kernel_rfl) Try.func4 (by kernel_rfl)
    (of_decide_eq_true (by kernel_rfl)) (by unfold Func.isWrapper; first | (rw [if_pos (by decide +kernel)]; kernel_rfl) | (rw [if_neg (by decide +kernel)]; exact ⟨rfl, rfl⟩))
    (fun os started H enc _ => lifted os started H enc)

theorem proved : Rows.NamesWithoutSaid :=
  over
#print axioms proved
end Go.Proofs.Ytfbegkmogdjaiaa.namesWithout
