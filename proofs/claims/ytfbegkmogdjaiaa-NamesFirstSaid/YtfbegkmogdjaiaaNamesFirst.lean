/- The statement NamesFirst is proved: for every two lists of names and every name the call returns true and leaves its arguments as they were; no condition. -/
import Derived.Test.YtfbegkmogdjaiaaRows
import Derived.Test.YtfbegkmogdjaiaaNLawFirst
import Derived.Test.YtfbegkmogdjaiaaNArgs
namespace Go.Proofs.Ytfbegkmogdjaiaa.namesFirst
open Go.ChangeShapes Go.WideShapes Go.ChangeAt Go.RowKit
open Go.ChangeMaps (open_string)

set_option maxRecDepth 100000 in
theorem walk (l o : List ByteArray) (x : ByteArray) (hlm : l.length ≤ maxLen) (hom : o.length ≤ maxLen) (hs : ∀ y ∈ l, y.size ≤ maxLen) (hs' : ∀ y ∈ o, y.size ≤ maxLen) (hx : x.size ≤ maxLen) (v v' : Value) (w : World) (h : TextsAt w v l) (h' : TextsAt w v' o) (hcap : ∀ ao cap, v = .slice ao l.length cap → l.length ≤ cap) :
    Calls Try.prog 3 #[v, v', .string x] w fun e w' => e = .returned (.bool true) ∧ Below w.heap.size w w' := by
  have HF1 := Lib.hid (few_any h hlm hs 20)
  have HF2 := Lib.hid (few_any h' hom hs' 20)
  have HAW := Lib.hid awake4_any
  cases f1 : fewB l 20 with
  | false =>
    rw [f1] at HF1
    obtain ⟨ao, cap, rfl, hc⟩ := h
    obtain ⟨ao', cap', rfl, hc'⟩ := h'
    clear hc hc' hs hs' hcap
    go_enter Try.func3, Try.ntmps3
    go_wp2_with (first
      | (go_at_call 5; with_reducible refine (HF1.out).mono ?_; rintro e w1 ⟨rfl, rfl⟩)
      | (go_at_call 6; refine (HAW.out _).mono ?_; rintro e w3 ⟨rfl, hb3⟩))
    go_ret
    exact ⟨rfl, hb3⟩
  | true =>
    cases f2 : fewB o 20 with
    | false =>
      rw [f1] at HF1
      rw [f2] at HF2
      obtain ⟨ao, cap, rfl, hc⟩ := h
      obtain ⟨ao', cap', rfl, hc'⟩ := h'
      clear hc hc' hs hs' hcap
      go_enter Try.func3, Try.ntmps3
      go_wp2_with (first
        | (go_at_call 5; with_reducible refine (HF1.out).mono ?_; rintro e w1 ⟨rfl, rfl⟩)
        | (go_at_call 5; with_reducible refine (HF2.out).mono ?_; rintro e w1 ⟨rfl, rfl⟩)
        | (go_at_call 6; refine (HAW.out _).mono ?_; rintro e w3 ⟨rfl, hb3⟩))
      go_ret
      exact ⟨rfl, hb3⟩
    | true =>
      by_cases hx2 : x.size ≤ 200
      · have g1 := of_decide_eq_true f1
        have g2 := of_decide_eq_true f2
        exact NamesFirst_small l o x (by omega) (by omega) g1.2 g2.2 hx2 v v' w h h' hcap
      · rw [f1] at HF1
        rw [f2] at HF2
        unfold maxLen at hx
        obtain ⟨ao, cap, rfl, hc⟩ := h
        obtain ⟨ao', cap', rfl, hc'⟩ := h'
        clear hc hc' hs hs' hcap
        go_enter Try.func3, Try.ntmps3
        go_wp2_with (first
          | (go_at_call 5; with_reducible refine (HF1.out).mono ?_; rintro e w1 ⟨rfl, rfl⟩)
          | (go_at_call 5; with_reducible refine (HF2.out).mono ?_; rintro e w1 ⟨rfl, rfl⟩)
          | (go_at_call 6; refine (HAW.out _).mono ?_; rintro e w3 ⟨rfl, hb3⟩))
        go_ret
        exact ⟨rfl, hb3⟩

theorem recs : ∀ t ∈ ([22, 22, 9] : List TypeId), Try.prog.readableRec t = true ∧ t < Try.prog.types.size := by
  intro t ht
  simp only [List.mem_cons, List.not_mem_nil, or_false] at ht
  rcases ht with rfl | rfl | rfl
  · exact ⟨by kernel_rfl, of_decide_eq_true (by kernel_rfl)⟩
  · exact ⟨by kernel_rfl, of_decide_eq_true (by kernel_rfl)⟩
  · exact ⟨by kernel_rfl, of_decide_eq_true (by kernel_rfl)⟩

set_option maxRecDepth 100000 in
theorem lifted (os : Os) (started : os.Started) (H : Type) (enc : TypeId × Value → H) :
    ReturnsInHanded {} Try.checked os 3 .any (Rows.namesFirstSpec.pre6 enc Try.prog Try.f3 Rows.namesFirstRow.domain false) (Rows.namesFirstSpec.post enc Try.prog Try.f3 false true false false) := by
  refine returnsInHanded_of_change (C := Try.checked) ownKnobOf started (by kernel_rfl) Try.func3
    (ChangeSpec.witness6 (enc := enc) (C := Try.checked) false ⟨#[], #[.slice none 0 0, .slice none 0 0, .string ⟨#[]⟩], []⟩ 8 (by kernel_rfl) (by kernel_rfl) (by kernel_rfl) (by kernel_rfl)) ?_
  intro W base args ds gs before hval0 hW _ _
  have hval : ∀ (j : Nat) t v, Try.f3.params[j]? = some t → args[j]? = some v → Value.okWide Try.prog W .any base t v := hval0
  have hW' := hW
  obtain ⟨p, q, hA0, hV, rfl, _, _⟩ := hW
  have hA : DataW.TrodAll enc Try.prog W 0 (fun _ => true) true Try.f3.params.toList args.toList ds p := hA0
  obtain ⟨rfl, rfl⟩ := trodVars_none hV
  have hltp : ∀ x ∈ p, x.block < W.heap.size := fun x hx => hW'.lt x (by simpa using hx)
  have hA2 := hA
  rw [Try.params3] at hA hval
  obtain ⟨v0, vs0, d0, ds0, p0, q0, hargs, rfl, rfl, h0, r0⟩ := trodAll_cons hA
  obtain ⟨v1, vs1, d1, ds1, p1, q1, rfl, rfl, rfl, h1, r1⟩ := trodAll_cons r0
  obtain ⟨v2, vs2, d2, ds2, p2, q2, rfl, rfl, rfl, h2, r2⟩ := trodAll_cons r1
  obtain ⟨rfl, rfl, rfl⟩ := trodAll_nil r2
  obtain rfl : args = #[v0, v1, v2] := by cases args; simp_all
  obtain ⟨s, rfl, _, _, hs⟩ := open_string Try.underlying9 (hval 2 9 v2 rfl rfl) h2
  obtain ⟨l, hl, hlm, hls, hlc⟩ := open_texts (hval 0 22 v0 rfl rfl) h0
  obtain ⟨o, ho, hom, hos, _⟩ := open_texts (hval 1 22 v1 rfl rfl) h1
  clear hA0 hval0
  simp only [List.append_nil] at hW'
  refine (walk l o s hlm hom hls hos hs v0 v1 W hl ho hlc).mono fun e W' ⟨he, hg⟩ => ?_
  subst he
  exact ⟨_, rfl, post_of_below (pa := _) (pv := []) hW' (fun _ _ _ => (trodAll_cons_mk (shut_bool Try.underlying4 _) trodAll_mk0)) (fun sp hsp => trodAll_stays laidAll hg recs hA2 hltp sp (fun x hx => hsp x (by simpa using hx))) (fun _ _ => rfl) (by simp)
    hg (ok_one (by kernel_rfl) rfl (okWide_bool_mk Try.underlying4 _))⟩

theorem over : Rows.namesFirstRow.holds Try.pinned (OpenSpec.ofChange Rows.namesFirstSpec) :=
  OpenClaim.holds_of_wide 3 Try.f3 rfl rfl rfl rfl rfl rfl rfl ⟨rfl, rfl, rfl, rfl, rfl⟩ rfl rfl rfl rfl rfl (by kernel_rfl) Try.func3 (by kernel_rfl)
    (of_decide_eq_true (by kernel_rfl)) (by unfold Func.isWrapper; first | (rw [if_pos (by decide +kernel)]; kernel_rfl) | (rw [if_neg (by decide +kernel)]; exact ⟨rfl, rfl⟩))
    (fun os started H enc _ => lifted os started H enc)

theorem proved : Rows.NamesFirstSaid :=
  over
#print axioms proved
end Go.Proofs.Ytfbegkmogdjaiaa.namesFirst
