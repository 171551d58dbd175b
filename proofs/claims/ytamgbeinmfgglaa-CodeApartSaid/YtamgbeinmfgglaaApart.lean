/- The walk of CodeApart. -/
import Derived.Test.YtamgbeinmfgglaaDecLaw
import Derived.Test.YtamgbeinmfgglaaMade7
import Derived.Deep.RegionHeld3
namespace Go.Proofs.Ytamgbeinmfgglaa
open Go.RowKit

theorem slice_to (d : List UInt8) (b : Nat) (hb : b ≤ d.length) (W : World) : (Instr.slice 9 (.string (bs d)) none (some (.int .i64 (b : Int))) none).run Try.prog W = .ok (.string (bs (d.take b))) W := by
  rw [run_slice_string_h W 9 (bs d) Try.underlying9 .i64 (b : Int) (by omega) (by rw [bs_size]; omega)]
  have h := bs_part d 0 b
  unfold cutL at h
  rw [List.drop_zero] at h
  rw [← h]
  rfl
theorem enc_le {L : List Ent} (hG : Good L) {n : Nat} (hn : n < L.length) : (enc L n).length ≤ 131072 := TAt.short hG (.inr ⟨n, rfl, hn, rfl⟩)
theorem no_front {L : List Ent} (hG : Good L) {i j : Int} {s t : List UInt8} (hs : TAt L i s) (ht : TAt L j t) (hne : t ≠ []) (h : t.length < s.length) : s.take t.length ≠ t := by
  intro he
  rcases hs with ⟨_, rfl⟩ | ⟨n, _, hn, rfl⟩
  · simp at h
  rcases ht with ⟨_, rfl⟩ | ⟨m, _, hm, rfl⟩
  · exact hne rfl
  have h1 : enc L n ++ [] = enc L m ++ (enc L n).drop (enc L m).length := by
    rw [List.append_nil]
    conv => lhs; rw [← List.take_append_drop (enc L m).length (enc L n), he]
  have h2 := (enc_apart hG n m _ _ hn hm h1).2
  have h3 := congrArg List.length h2
  rw [List.length_drop] at h3
  simp at h3
  omega

theorem Decode_more {B A : Nat} {L : List Ent} {F : Nat → Prop} {w : World} (ha : ArenaAt B A L F w) (hG : Good L) (hL : L.length ≤ 1000) {n : Nat} (hn : n < L.length) {r : List UInt8} (hr : r ≠ []) (hl : r.length ≤ 100) :
    Calls Try.prog 28 #[.pointer (some ⟨A, 0, none⟩), .string (bs (enc L n ++ r))] w fun e w' => ∃ L' F', e = .returned (.tuple #[.int .i64 (-1), .int .i64 (if (enc L n ++ r).length ≤ 131072 then 3 else 2)]) ∧ (ArenaAt B A L' F' w' ∧ Good L' ∧ L'.length ≤ 2000000 ∧ L <+: L') ∧ Moves F w w' ∧ ∀ k, F' k → F k ∨ w.heap.size ≤ k := by
  have he := enc_le hG hn
  have hlen : (enc L n ++ r).length = (enc L n).length + r.length := List.length_append
  by_cases h : (enc L n ++ r).length ≤ 131072
  · rw [if_pos h]
    refine (Decode_any ha (by omega) h).mono ?_
    rintro e w' ⟨q, h1, rfl, F', h2, h3, h4⟩
    have hb : L.length + 10 * (enc L n ++ r).length ≤ 1000000000 := by omega
    have hrd := read_rd _ _ _ _ _ hG hb h1
    have hf := hrd.few
    refine ⟨q.2.1, F', by rw [decP_more hG hG hn hr hb hb h1], ⟨h2, hrd.good, by omega, hrd.pre⟩, h3, h4⟩
  · rw [if_neg h]
    refine (Decode_long _ (by rw [bs_size]; omega) (by rw [bs_size]; omega) w).mono ?_
    rintro e w' ⟨rfl, rfl⟩
    exact ⟨L, F, rfl, ⟨ha, hG, by omega, List.prefix_refl _⟩, Moves.refl _ _, fun _ h => .inl h⟩
theorem Decode_less {B A : Nat} {L : List Ent} {F : Nat → Prop} {w : World} (ha : ArenaAt B A L F w) (hG : Good L) (hL : L.length ≤ 2000000) {n : Nat} (hn : n < L.length) {s r : List UInt8} (hs : s ++ r = enc L n) (hr : r ≠ []) :
    Calls Try.prog 28 #[.pointer (some ⟨A, 0, none⟩), .string (bs s)] w fun e w' => e = .returned (.tuple #[.int .i64 (-1), .int .i64 3]) ∧ Moves F w w' := by
  have he := enc_le hG hn
  have h1 := congrArg List.length hs
  rw [List.length_append] at h1
  refine (Decode_any ha (by omega) (by omega)).mono ?_
  rintro e w' ⟨q, h1, rfl, F', h2, h3, h4⟩
  exact ⟨by rw [decP_less hG hn hs hr (by omega) h1], h3⟩
theorem Opaque_more {L : List Ent} (hG : Good L) (hL : L.length ≤ 1000) {n : Nat} (hn : n < L.length) {r : List UInt8} (hr : r ≠ []) (hl : r.length ≤ 100) (w : World) :
    Calls Try.prog 31 #[.string (bs (enc L n ++ r))] w fun e w' => e = .returned (.bool false) ∧ Below w.heap.size w w' := by
  have he := enc_le hG hn
  have hlen : (enc L n ++ r).length = (enc L n).length + r.length := List.length_append
  by_cases h : (enc L n ++ r).length ≤ 131072
  · refine (Opaque_any h w).mono ?_
    rintro e w' ⟨q, h1, rfl, h2⟩
    have hb : L.length + 10 * (enc L n ++ r).length ≤ 1000000000 := by omega
    refine ⟨?_, h2⟩
    unfold opaP
    rw [decP_more Good.nil hG hn hr (by simp only [List.length_nil]; omega) hb h1]
    simp
  · exact Opaque_long _ (by rw [bs_size]; omega) (by rw [bs_size]; omega) w

set_option maxHeartbeats 4000000 in
set_option maxRecDepth 100000 in
theorem codeApart_any {w : World} {v : Value} {l : List MakeR} (hM : MakesAt w v l) (hs : ∀ x ∈ l, x.s.length ≤ 9223372036854775807) (hl : l.length ≤ 9223372036854775807) (k : Int) (more : List UInt8) (hm : more.length ≤ 9223372036854775807) :
    Calls Try.prog 9 #[v, .int .i64 k, .string (bs more)] w fun e w' => e = .returned (.bool true) ∧ Below w.heap.size w w' := by
  have HFw := Lib.hid (few_any hM 20 hs hl)
  have HAw := Lib.hid awake2_any
  have hsz : (bs more).size = more.length := bs_size more
  obtain ⟨ao0, cap0, rfl, _⟩ := id hM
  by_cases hf : fewP l 20 = false
  · rw [hf] at HFw
    generalize bs more = M at *
    go_enter Try.func9, Try.ntmps9
    go_wp2_with (first
      | (go_at_call 11; with_reducible refine HFw.out.mono ?_; rintro e w1 ⟨rfl, hw⟩; have hw := hw.symm; subst hw)
      | (go_at_call 26; with_reducible refine (HAw.out _).mono ?_; rintro e w2 ⟨rfl, b2⟩))
    go_ret
    exact ⟨rfl, b2⟩
  have hf : fewP l 20 = true := by simpa using hf
  rw [hf] at HFw
  obtain ⟨hl20, hs2⟩ := of_decide_eq_true hf
  by_cases c1 : more.length < 1
  · have q1 : decide ((more.length : Int) < 1) = true := decide_eq_true (by omega)
    generalize bs more = M at *
    generalize more.length = mn at *
    go_enter Try.func9, Try.ntmps9
    go_wp2_with (first
      | (go_at_call 11; with_reducible refine HFw.out.mono ?_; rintro e w1 ⟨rfl, hw⟩; have hw := hw.symm; subst hw)
      | (go_at_call 26; with_reducible refine (HAw.out _).mono ?_; rintro e w2 ⟨rfl, b2⟩))
    go_ret
    exact ⟨rfl, b2⟩
  have q1 : decide ((more.length : Int) < 1) = false := decide_eq_false (by omega)
  by_cases c2 : 100 < more.length
  · have q2 : decide ((more.length : Int) > 100) = true := decide_eq_true (by omega)
    generalize bs more = M at *
    generalize more.length = mn at *
    go_enter Try.func9, Try.ntmps9
    go_wp2_with (first
      | (go_at_call 11; with_reducible refine HFw.out.mono ?_; rintro e w1 ⟨rfl, hw⟩; have hw := hw.symm; subst hw)
      | (go_at_call 26; with_reducible refine (HAw.out _).mono ?_; rintro e w2 ⟨rfl, b2⟩))
    go_ret
    exact ⟨rfl, b2⟩
  have q2 : decide ((more.length : Int) > 100) = false := decide_eq_false (by omega)
  by_cases c3 : k < 0
  · have q3 : decide (k < 0) = true := decide_eq_true (by omega)
    generalize bs more = M at *
    generalize more.length = mn at *
    go_enter Try.func9, Try.ntmps9
    go_wp2_with (first
      | (go_at_call 11; with_reducible refine HFw.out.mono ?_; rintro e w1 ⟨rfl, hw⟩; have hw := hw.symm; subst hw)
      | (go_at_call 26; with_reducible refine (HAw.out _).mono ?_; rintro e w2 ⟨rfl, b2⟩))
    go_ret
    exact ⟨rfl, b2⟩
  obtain ⟨kn, rfl⟩ : ∃ kn : Nat, k = kn := ⟨k.toNat, by omega⟩
  by_cases c4 : l.length ≤ kn
  · have q4 : decide ((kn : Int) ≥ (l.length : Int)) = true := decide_eq_true (by omega)
    generalize bs more = M at *
    generalize more.length = mn at *
    go_enter Try.func9, Try.ntmps9
    go_wp2_with (first
      | (go_at_call 11; with_reducible refine HFw.out.mono ?_; rintro e w1 ⟨rfl, hw⟩; have hw := hw.symm; subst hw)
      | (go_at_call 26; with_reducible refine (HAw.out _).mono ?_; rintro e w2 ⟨rfl, b2⟩))
    go_ret
    exact ⟨rfl, b2⟩
  have q4 : decide ((kn : Int) ≥ (l.length : Int)) = false := decide_eq_false (by omega)
  have q3 : decide ((kn : Int) < 0) = false := decide_eq_false (by omega)
  have hl20 : l.length ≤ 20 := by omega
  have HMk : Hid (∀ (A : Nat) (F : Nat → Prop) (w1 : World), ArenaAt w.heap.size A [] F w1 → Below w.heap.size w w1 → Calls Try.prog 14 #[.pointer (some ⟨A, 0, none⟩), .slice ao0 l.length cap0] w1 fun e w' => ∃ L ids texts ai ci bt ot ct F3, (AllMade l.length L ids texts ∧ ids.length = l.length ∧ texts.length = l.length) ∧ e = .returned (.agg #[.slice ai l.length ci, .slice (some ⟨bt, ot, none⟩) l.length ct]) ∧
      (∀ W3, W3 = w'.alloc (.cells #[.slice ai l.length ci, .slice (some ⟨bt, ot, none⟩) l.length ct] 30) → Below w.heap.size w W3 ∧ (∀ k t, texts[k]? = some t → W3.cell? ⟨bt, ot + k, none⟩ = some (.string (bs t))) ∧ W3.cell? ⟨w'.heap.size, 1, none⟩ = some (.slice (some ⟨bt, ot, none⟩) l.length ct) ∧
        w'.heap.size < W3.heap.size ∧ bt < W3.heap.size ∧ ¬ F3 w'.heap.size ∧ ¬ F3 bt ∧ ArenaAt w.heap.size A L F3 W3)) := fun A F w1 ha b1 =>
    (makes_more hM b1 (Nat.le_refl _) ha (by omega) (fun x hx => by have := hs2 x hx; omega) (made_ok (by omega))).mono (by
      rintro e w' ⟨L, ids, texts, vi, vt, F3, hto, rfl, ⟨ai, ci, rfl, hI⟩, ⟨at', ct, rfl, hT⟩, har, b3, hap⟩
      have hln := hto.lens
      have hA := hto.all exp_same (by omega)
      have hne : l ≠ [] := by rintro rfl; simp at c4
      obtain ⟨bt, ot, rfl, hbt, hct⟩ := hT (by intro h; simp at h; rw [h] at hln; exact hne (List.eq_nil_of_length_eq_zero hln.2.symm))
      have xt := hap.texts bt rfl
      refine ⟨L, ids, texts, ai, ci, bt, ot, ct, F3, ⟨hA, hln.1, hln.2⟩, by rw [List.length_map, hln.1, hln.2], fun W3 hW3 => ?_⟩
      subst hW3
      have hba : Below w'.heap.size w' (w'.alloc (.cells #[.slice ai l.length ci, .slice (some ⟨bt, ot, none⟩) l.length ct] 30)) := (Below.refl _ _).alloc (Nat.le_refl _) _
      have hbw' := b1.trans b3
      have hN := Holds.new w' 30 #[.slice ai l.length ci, .slice (some ⟨bt, ot, none⟩) l.length ct]
      exact ⟨hbw'.trans (hba.mono hbw'.size), fun k t h => (hba.cell (p := ⟨bt, ot + k, none⟩) hbt).trans (hct k (bs t) (by simp [h])), hN.cell 1, hN.lt, Nat.lt_of_lt_of_le hbt hba.size, fun h => by have := (har.lt _ h).2; omega, xt.1, har.below hba⟩)
  clear hs hl hs2 hf hM
  have hkl : kn < l.length := by omega
  have HMO : Hid (more ≠ [] ∧ more.length ≤ 100 ∧ bs more = bs more) := ⟨fun h => c1 (by simp [h]), by omega, rfl⟩
  clear c1 c2 c3 c4 hm
  generalize hmr : bs more = M at *
  go_enter Try.func9, Try.ntmps9
  go_upto_region 5 with (first
    | (go_at_call 11; with_reducible refine HFw.out.mono ?_; rintro e w1 ⟨rfl, hw⟩; have hw := hw.symm; subst hw)
    | (go_at_call 14; with_reducible refine (HMk.out _ _ _ ha1 b1).mono ?_; rintro e w3 ⟨L, ids, texts, ai, ci, bt, ot, ct, F3, hA, rfl, hW3⟩)
    | (go_at_call 13; with_reducible refine (New_any _).mono ?_; rintro e w1 ⟨A, F, rfl, ha1, b1⟩))
  obtain ⟨W3, hWe⟩ : ∃ W3, W3 = w3.alloc (.cells #[.slice ai l.length ci, .slice (some ⟨bt, ot, none⟩) l.length ct] 30) := ⟨_, rfl⟩
  obtain ⟨hbw3, hct, hN1, hNl, hbl, hNF, hbF, har3⟩ := hW3 W3 hWe
  rw [← hWe]
  obtain ⟨hAll, hil, htl⟩ := hA
  clear hW3 hWe ha1 b1 HMk HFw
  generalize w3.heap.size = N at *
  obtain ⟨t, ht⟩ : ∃ t, texts[kn]? = some t := ⟨_, List.getElem?_eq_getElem (by omega)⟩
  obtain ⟨i, hi⟩ : ∃ i, ids[kn]? = some i := ⟨_, List.getElem?_eq_getElem (by omega)⟩
  have hta := hAll.pairs.at_ kn i t hi ht
  have y1 := hct kn t ht
  by_cases hte : t = []
  · have hem : (bs t).toList.isEmpty = true := none_yes hte
    have HB := Lib.hid hbw3
    clear hct hAll har3 hbw3 hta hte ht hi
    go_wp2_with (go_at_call 26; with_reducible refine (HAw.out _).mono ?_; rintro e w4 ⟨rfl, b4⟩)
    go_ret
    exact ⟨rfl, HB.out.trans (b4.mono HB.out.size)⟩
  have hem : (bs t).toList.isEmpty = false := none_no hte
  obtain ⟨n, hn, hten⟩ : ∃ n, n < L.length ∧ t = enc L n := by
    rcases hta with ⟨_, h⟩ | ⟨n, _, h1, h2⟩
    · exact absurd h hte
    · exact ⟨n, h1, h2⟩
  have hfew := hAll.few
  have hmo := HMO.out
  have htl2 := enc_le hAll.good hn
  rw [← hten] at htl2
  have hadd : ∀ W : World, (Op.stringOp .add (bs t) M).run Try.prog W = .ok (.string (bs (t ++ more))) W := fun W => by
    rw [← hmr]; exact add_ok t more (by omega) W
  obtain ⟨z, hz⟩ : ∃ z : Int, z = if (t ++ more).length ≤ 131072 then 3 else 2 := ⟨_, rfl⟩
  have hz2 : z = 3 ∨ z = 2 := by rw [hz]; split <;> simp
  have HD1 : Hid (Calls Try.prog 28 #[.pointer (some ⟨A, 0, none⟩), .string (bs (t ++ more))] W3 fun e w' => ∃ L' F', e = .returned (.tuple #[.int .i64 (-1), .int .i64 z]) ∧ (ArenaAt w.heap.size A L' F' w' ∧ Good L' ∧ L'.length ≤ 2000000 ∧ L <+: L') ∧ Moves F3 W3 w' ∧ ∀ k, F' k → F3 k ∨ W3.heap.size ≤ k) := by
    rw [hz, hten]
    exact Decode_more har3 hAll.good (by omega) hn hmo.1 hmo.2.1
  have HOP : Hid (∀ W, Calls Try.prog 31 #[.string (bs (t ++ more))] W fun e w' => e = .returned (.bool false) ∧ Below W.heap.size W w') := fun W => by
    rw [hten]
    exact Opaque_more hAll.good (by omega) hn hmo.1 hmo.2.1 W
  obtain ⟨tm, htm⟩ : ∃ tm, t.length = tm + 1 := ⟨t.length - 1, by have := List.length_pos_iff.2 hte; omega⟩
  have HD2 : Hid (∀ (W : World) (L' : List Ent) (F' : Nat → Prop), (ArenaAt w.heap.size A L' F' W ∧ Good L' ∧ L'.length ≤ 2000000 ∧ L <+: L') → Calls Try.prog 28 #[.pointer (some ⟨A, 0, none⟩), .string ((bs t).extract 0 tm)] W fun e w' => e = .returned (.tuple #[.int .i64 (-1), .int .i64 3]) ∧ Moves F' W w') := fun W L' F' ⟨a1, a2, a3, a4⟩ => by
    have hx := bs_part t 0 tm
    unfold cutL at hx
    rw [List.drop_zero] at hx
    rw [hx]
    refine Decode_less a1 a2 a3 (n := n) (by have := a4.length_le; omega) (r := t.drop tm) ?_ (fun h => ?_)
    · rw [List.take_append_drop, enc_same a2 a4 hn, hten]
    · have := congrArg List.length h
      rw [List.length_drop] at this
      simp at this
      omega
  have HNF : Hid (∀ (j : Nat) (s : List UInt8), texts[j]? = some s → t.length < s.length → s.take t.length ≠ t) := fun j s hj h => by
    obtain ⟨ij, hij⟩ : ∃ ij, ids[j]? = some ij := ⟨_, List.getElem?_eq_getElem (by have := (List.getElem?_eq_some_iff.1 hj).1; omega)⟩
    exact no_front hAll.good (hAll.pairs.at_ j ij s hij hj) hta hte h
  have HCT := Lib.hid hct
  have HB := Lib.hid hbw3
  have HAR := Lib.hid har3
  have HTL := Lib.hid htl
  have HTK := Lib.hid ht
  have hst : (bs t).size = t.length := bs_size t
  have HTM := Lib.hid htm
  have hwt : IntKind.i64.wrap ((t.length : Int) - 1) = (tm : Int) := by rw [IntWalk.i64_in _ (by omega)]; omega
  have HNN : Hid (N < W3.heap.size ∧ bt < W3.heap.size ∧ ¬ F3 N ∧ ¬ F3 bt ∧ W3.cell? ⟨N, 1, none⟩ = some (.slice (some ⟨bt, ot, none⟩) l.length ct)) := ⟨hNl, hbl, hNF, hbF, hN1⟩
  clear hct hAll hbw3 har3 hta hte ht hi hil htl hten hmo hz hfew htm hNF hbF hn hNl hbl hmr
  generalize bs (t ++ more) = TM at *
  rcases hz2 with rfl | rfl
  all_goals
    go_wp2_with (
      go_at_call 28
      with_reducible refine HD1.out.mono ?_
      rintro e w4 ⟨L4, F4, rfl, hst4, m4, hF4⟩)
    have HK4 : Hid (∀ W, Below w4.heap.size w4 W → W.cell? ⟨N, 1, none⟩ = some (.slice (some ⟨bt, ot, none⟩) l.length ct) ∧ ∀ (j : Nat) (s : List UInt8), texts[j]? = some s → W.cell? ⟨bt, ot + j, none⟩ = some (.string (bs s))) := fun W hb =>
      ⟨((hb.cell (p := ⟨N, 1, none⟩) (Nat.lt_of_lt_of_le HNN.out.1 m4.size)).trans (m4.cell (p := ⟨N, 1, none⟩) HNN.out.1 HNN.out.2.2.1)).trans HNN.out.2.2.2.2, fun j s h => ((hb.cell (p := ⟨bt, ot + j, none⟩) (Nat.lt_of_lt_of_le HNN.out.2.1 m4.size)).trans (m4.cell (p := ⟨bt, ot + j, none⟩) HNN.out.2.1 HNN.out.2.2.2.1)).trans (HCT.out j s h)⟩
    have HM4 := Lib.hid m4
    have HF4 := Lib.hid hF4
    have HS4 := Lib.hid hst4
    clear y1 hN1 HD1 m4 hF4 hst4
    go_loopw [11] (fun i wr => ∃ j : Nat, j ≤ l.length ∧ i = .int .i64 j ∧ Below w4.heap.size w4 wr) (fun i _ => l.length - (intOf i).toNat)
    case atStart => exact ⟨0, Nat.zero_le _, rfl, Below.refl _ _⟩
    case round =>
      obtain ⟨j, hj, rfl, hbel⟩ := hrel
      obtain ⟨x0, x1⟩ := HK4.out _ hbel
      have x2 := x1 kn t HTK.out
      by_cases hlt : j < l.length
      · obtain ⟨s, hs⟩ : ∃ s, texts[j]? = some s := ⟨_, List.getElem?_eq_getElem (by have := HTL.out; omega)⟩
        have x3 := x1 j s hs
        have hss : (bs s).size = s.length := bs_size s
        by_cases hlong : t.length < s.length
        · have q6 : (((bs s).extract 0 t.length).toList == (bs t).toList) = false := same_no fun e => HNF.out j s hs hlong (by
            rw [bs_part] at e
            have := bs_inj e
            unfold cutL at this
            rw [List.drop_zero] at this
            exact this)
          have HBe := Lib.hid hbel
          clear x1 hs hbel
          go_wp2_with fail
          go_quiet (fail)
          have hb := below_drewN HBe.out nq
          clear x0 x2 x3
          go_wp2_with fail
          go_roundw
          case rel => exact ⟨j + 1, by omega, by go_num, hb⟩
          case measure => simp [intOf]; omega
        · have HBe := Lib.hid hbel
          clear x1 hs hbel
          go_wp2_with fail
          go_quiet (fail)
          have hb := below_drewN HBe.out nq
          clear x0 x2 x3
          go_wp2_with fail
          go_roundw
          case rel => exact ⟨j + 1, by omega, by go_num, hb⟩
          case measure => simp [intOf]; omega
      · have hjl : j = l.length := by omega
        subst hjl
        have hbd : Below w4.heap.size w4 wr.drew := hbel.drew
        have HBe := Lib.hid hbd
        have hS4 := HS4.out
        have hS5 : ArenaAt w.heap.size A L4 F4 wr.drew := hS4.1.below hbd
        have HS5 : Hid (ArenaAt w.heap.size A L4 F4 wr.drew ∧ Good L4 ∧ L4.length ≤ 2000000 ∧ L <+: L4) := ⟨hS5, hS4.2⟩
        have HN4 : Hid (¬ F4 N ∧ ¬ F4 bt) := ⟨fun h => by rcases HF4.out _ h with h | h; exact HNN.out.2.2.1 h; have := HNN.out.1; omega, fun h => by rcases HF4.out _ h with h | h; exact HNN.out.2.2.2.1 h; have := HNN.out.2.1; omega⟩
        have HK5 : Hid (∀ w5 : World, Moves F4 wr.drew w5 → ∀ W, Below w5.heap.size w5 W → W.cell? ⟨N, 1, none⟩ = some (.slice (some ⟨bt, ot, none⟩) l.length ct) ∧ W.cell? ⟨bt, ot + kn, none⟩ = some (.string (bs t))) := fun w5 m5 W hb => by
          obtain ⟨u0, u1⟩ := HK4.out _ HBe.out
          have s4 := HM4.out.size
          have s5 := HBe.out.size
          have s6 := m5.size
          have n1 := HNN.out.1
          have n2 := HNN.out.2.1
          exact ⟨((hb.cell (p := ⟨N, 1, none⟩) (by show N < _; omega)).trans (m5.cell (p := ⟨N, 1, none⟩) (by show N < _; omega) HN4.out.1)).trans u0, ((hb.cell (p := ⟨bt, ot + kn, none⟩) (by show bt < _; omega)).trans (m5.cell (p := ⟨bt, ot + kn, none⟩) (by show bt < _; omega) HN4.out.2)).trans (u1 kn t HTK.out)⟩
        obtain ⟨y0, y1⟩ := HK5.out _ (Moves.refl _ _) _ (Below.refl _ _)
        clear x1 x2 x0 hS4 hS5 hbel hlt hbd
        have hb1 : (0 : Int) ≤ (tm : Int) := by omega
        have hb2 : (tm : Int) ≤ ((bs t).size : Int) := by rw [hst]; have := HTM.out; omega
        have hb3 : (tm : Int) ≤ (t.length : Int) := by have := HTM.out; omega
        have hb4 : tm ≤ t.length := by have := HTM.out; omega
        go_wp2_with fail
        go_region_held3 (fun w' => w'.cell? ⟨N, 1, none⟩ = some (.slice (some ⟨bt, ot, none⟩) l.length ct) ∧ w'.cell? ⟨bt, ot + kn, none⟩ = some (.string (bs t)))
          (first | with_reducible exact HK5.out _ m5 _ (Below.refl _ _) | go_keep)
          (first | (go_at_call 28; with_reducible refine (HD2.out _ _ _ HS5.out).mono ?_; rintro e w5 ⟨rfl, m5⟩; obtain ⟨v0, v1⟩ := HK5.out _ m5 _ (Below.refl _ _)))
        all_goals
          have HK6 := Lib.hid (HK5.out _ m5)
          have HM5 := Lib.hid m5
          clear m5
          go_wp2_with (first
            | (go_at_call 26
               with_reducible refine (HAw.out _).mono ?_
               rintro e w6 ⟨rfl, b6⟩
               obtain ⟨z0, z1⟩ := HK6.out _ b6)
            | (go_at_call 31
               with_reducible refine (HOP.out _).mono ?_
               rintro e w7 ⟨rfl, b7⟩))
          go_ret
          refine ⟨by simp, ?_⟩
          have q1 := HB.out.trans (HM4.out.below HB.out.size fun i hi => (HAR.out.lt i hi).1)
          have q2 := q1.trans (HBe.out.mono q1.size)
          have q3 := q2.trans (HM5.out.below q2.size fun i hi => (HS5.out.1.lt i hi).1)
          have q4 := q3.trans (b6.mono q3.size)
          exact q4.trans (b7.mono q4.size)
end Go.Proofs.Ytamgbeinmfgglaa
