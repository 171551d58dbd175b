/- Two arenas side by side: what stands between the rounds of CodeEncodes; its walk. -/
import Derived.Test.YtamgbeinmfgglaaDecLaw
import Derived.Test.YtamgbeinmfgglaaMade7
namespace Go.Proofs.Ytamgbeinmfgglaa
open Go.RowKit

theorem enc_le {L : List Ent} (hG : Good L) {n : Nat} (hn : n < L.length) : (enc L n).length ≤ 131072 := TAt.short hG (.inr ⟨n, rfl, hn, rfl⟩)
/-- How many terms an arena may have after m rounds. -/
def room (m : Nat) : Nat := 30 + m * 1400000
set_option maxRecDepth 100000 in
theorem room_succ (m : Nat) : room m + 1400000 = room (m + 1) := by unfold room; rw [Nat.add_mul, Nat.one_mul, Nat.add_assoc]
theorem room_mono {m m' : Nat} (h : m ≤ m') : room m ≤ room m' := Nat.add_le_add_left (Nat.mul_le_mul_right _ h) _
theorem room_le {m : Nat} (h : m ≤ 100) : room m ≤ 140000030 := room_mono h
/-- Two arenas A and B; the blocks K stand as in W0. -/
structure Two (S A B : Nat) (L : List Ent) (K : Nat → Prop) (W0 : World) (m : Nat) (W : World) : Prop where
  ex : ∃ L1 F1 L2 F2, ArenaAt S A L1 F1 W ∧ ArenaAt S B L2 F2 W ∧ (∀ i, F1 i → ¬ F2 i) ∧ Good L1 ∧ Good L2 ∧ L <+: L1 ∧ L1.length ≤ room m ∧ L2.length ≤ room m ∧ (∀ i, K i → ¬ F1 i ∧ ¬ F2 i)
  kept : ∀ i, K i → i < W0.heap.size ∧ W.heap[i]? = W0.heap[i]?
  low : S ≤ W0.heap.size
  below : Below S W0 W
theorem Two.next {S A B : Nat} {L : List Ent} {K : Nat → Prop} {W0 : World} {m : Nat} {W W' : World} (h : Two S A B L K W0 m W) (hb : Below W.heap.size W W') : Two S A B L K W0 m W' := by
  obtain ⟨⟨L1, F1, L2, F2, a1, a2, a3, a4, a5, a6, a7, a8, a9⟩, k, lo, b⟩ := h
  refine ⟨⟨L1, F1, L2, F2, a1.below hb, a2.below hb, a3, a4, a5, a6, a7, a8, a9⟩, fun i hi => ⟨(k i hi).1, ?_⟩, lo, b.trans (hb.mono (Nat.le_trans lo b.size))⟩
  rw [← (k i hi).2]
  exact hb.block i (Nat.lt_of_lt_of_le (k i hi).1 b.size)
theorem Two.cell {S A B : Nat} {L : List Ent} {K : Nat → Prop} {W0 : World} {m : Nat} {W : World} (h : Two S A B L K W0 m W) {p : Addr} (hp : K p.block) : W.cell? p = W0.cell? p :=
  World.cell?_of_block (w := W0) (h.kept p.block hp).2
theorem Two.more {S A B : Nat} {L : List Ent} {K : Nat → Prop} {W0 : World} {m m' : Nat} {W : World} (h : Two S A B L K W0 m W) (hm : m ≤ m') : Two S A B L K W0 m' W := by
  obtain ⟨⟨L1, F1, L2, F2, a1, a2, a3, a4, a5, a6, a7, a8, a9⟩, k, lo, b⟩ := h
  exact ⟨⟨L1, F1, L2, F2, a1, a2, a3, a4, a5, a6, Nat.le_trans a7 (room_mono hm), Nat.le_trans a8 (room_mono hm), a9⟩, k, lo, b⟩
/-- Encode in the first arena. -/
theorem Two.encA {S A B : Nat} {L : List Ent} {K : Nat → Prop} {W0 : World} {m : Nat} {W : World} (h : Two S A B L K W0 m W) {i : Int} {t : List UInt8} (ht : TAt L i t) :
    Calls Try.prog 27 #[.pointer (some ⟨A, 0, none⟩), .int .i64 i] W fun e w' => e = .returned (.string (bs t)) ∧ Below W.heap.size W w' := by
  obtain ⟨⟨L1, F1, L2, F2, a1, a2, a3, a4, a5, a6, a7, a8, a9⟩, k, lo, b⟩ := h
  rcases ht.pre a4 a6 with ⟨rfl, rfl⟩ | ⟨n, rfl, hn, rfl⟩
  · exact Encode_no a1 (-1) (.inl (by omega))
  · have := enc_le a4 hn
    exact Encode_any a1 a4.encodable (List.getElem?_eq_getElem hn) (by omega)
/-- Decode in the first arena: the term itself. -/
theorem Two.decA {S A B : Nat} {L : List Ent} {K : Nat → Prop} {W0 : World} {m : Nat} {W : World} (h : Two S A B L K W0 m W) (hm : m ≤ 100) {i : Int} {t : List UInt8} (ht : TAt L i t) (hne : t ≠ []) :
    Calls Try.prog 28 #[.pointer (some ⟨A, 0, none⟩), .string (bs t)] W fun e w' => e = .returned (.tuple #[.int .i64 i, .int .i64 0]) ∧ Two S A B L K W0 (m + 1) w' := by
  obtain ⟨⟨L1, F1, L2, F2, a1, a2, a3, a4, a5, a6, a7, a8, a9⟩, k, lo, b⟩ := h
  rcases ht.pre a4 a6 with ⟨rfl, rfl⟩ | ⟨n, rfl, hn, rfl⟩
  · exact absurd rfl hne
  · have hle := enc_le a4 hn
    have hr1 := room_le hm
    have hr2 := room_succ m
    refine (Decode_any a1 (by omega) hle).mono ?_
    rintro e w' ⟨q, h1, rfl, F', h2, h3, h4⟩
    have hb : L1.length + 10 * (enc L1 n).length ≤ 1000000000 := by omega
    have hrd := read_rd _ _ _ _ _ a4 hb h1
    have hf := hrd.few
    refine ⟨by rw [decP_own a4 hn hb h1], ⟨q.2.1, F', L2, F2, h2, a2.moves h3 (fun i h5 h6 => a3 i h6 h5), fun i hi => ?_, hrd.good, a5, a6.trans hrd.pre, by omega, by omega, fun i hi => ⟨fun h5 => ?_, (a9 i hi).2⟩⟩, fun i hi => ⟨(k i hi).1, ?_⟩, lo, b.trans (h3.below (Nat.le_trans lo b.size) fun i hi => (a1.lt i hi).1)⟩
    · rcases h4 i hi with h5 | h5
      · exact a3 i h5
      · intro h6
        have := (a2.lt i h6).2
        omega
    · rcases h4 i h5 with h5 | h5
      · exact (a9 i hi).1 h5
      · have := (k i hi).1; have := b.size; omega
    · rw [← (k i hi).2]
      exact h3.block i (Nat.lt_of_lt_of_le (k i hi).1 b.size) (a9 i hi).1
/-- Decode in the second arena: a term of the same bytes. -/
theorem Two.decB {S A B : Nat} {L : List Ent} {K : Nat → Prop} {W0 : World} {m : Nat} {W : World} (h : Two S A B L K W0 m W) (hm : m ≤ 100) {i : Int} {t : List UInt8} (ht : TAt L i t) (hne : t ≠ []) :
    Calls Try.prog 28 #[.pointer (some ⟨B, 0, none⟩), .string (bs t)] W fun e w' => ∃ u : Int, e = .returned (.tuple #[.int .i64 u, .int .i64 0]) ∧ Two S A B L K W0 (m + 1) w' ∧ ∀ W2, Below w'.heap.size w' W2 → Calls Try.prog 27 #[.pointer (some ⟨B, 0, none⟩), .int .i64 u] W2 fun e w' => e = .returned (.string (bs t)) ∧ Below W2.heap.size W2 w' := by
  obtain ⟨⟨L1, F1, L2, F2, a1, a2, a3, a4, a5, a6, a7, a8, a9⟩, k, lo, b⟩ := h
  rcases ht.pre a4 a6 with ⟨rfl, rfl⟩ | ⟨n, rfl, hn, rfl⟩
  · exact absurd rfl hne
  · have hle := enc_le a4 hn
    have hr1 := room_le hm
    have hr2 := room_succ m
    refine (Decode_any a2 (by omega) hle).mono ?_
    rintro e w' ⟨q, h1, rfl, F', h2, h3, h4⟩
    have hb : L2.length + 10 * (enc L1 n).length ≤ 1000000000 := by omega
    have hb' : L1.length + 10 * (enc L1 n).length ≤ 1000000000 := by omega
    obtain ⟨j, e1, e2, e3, e4, e5⟩ := decP_enc a5 a4 hn hb hb' h1
    have hrd := read_rd _ _ _ _ _ a5 hb h1
    have hf := hrd.few
    refine ⟨j, by rw [e1], ⟨⟨L1, F1, q.2.1, F', a1.moves h3 (fun i h5 h6 => a3 i h5 h6), h2, fun i hi h5 => ?_, a4, e4, a6, by omega, by omega, fun i hi => ⟨(a9 i hi).1, fun h5 => ?_⟩⟩, fun i hi => ⟨(k i hi).1, ?_⟩, lo, b.trans (h3.below (Nat.le_trans lo b.size) fun i hi => (a2.lt i hi).1)⟩, fun W2 hW => ?_⟩
    · rcases h4 i h5 with h5 | h5
      · exact a3 i hi h5
      · have := (a1.lt i hi).2
        omega
    · rcases h4 i h5 with h5 | h5
      · exact (a9 i hi).2 h5
      · have := (k i hi).1; have := b.size; omega
    · rw [← (k i hi).2]
      exact h3.block i (Nat.lt_of_lt_of_le (k i hi).1 b.size) (a9 i hi).2
    · have hE := Encode_any (h2.below hW) e4.encodable (List.getElem?_eq_getElem e2) (by rw [e3]; omega)
      rw [e3] at hE
      exact hE

set_option maxHeartbeats 4000000 in
set_option maxRecDepth 100000 in
theorem codeEncodes_any {w : World} {v : Value} {l : List MakeR} (hM : MakesAt w v l) (hs : ∀ x ∈ l, x.s.length ≤ 9223372036854775807) (hl : l.length ≤ 9223372036854775807) (n : Nat) (hn : n < 4294967296) :
    Calls Try.prog 7 #[v, .int .u32 (n : Int)] w fun e w' => e = .returned (.bool true) ∧ Below w.heap.size w w' := by
  have HFw := Lib.hid (few_any hM 30 hs hl)
  have HAw := Lib.hid awake2_any
  obtain ⟨ao0, cap0, rfl, _⟩ := id hM
  by_cases hf : fewP l 30 = false
  · rw [hf] at HFw
    go_enter Try.func7, Try.ntmps7
    go_wp2_with (first
      | (go_at_call 11; with_reducible refine HFw.out.mono ?_; rintro e w1 ⟨rfl, hw⟩; have hw := hw.symm; subst hw)
      | (go_at_call 26; with_reducible refine (HAw.out _).mono ?_; rintro e w2 ⟨rfl, b2⟩))
    go_ret
    exact ⟨rfl, b2⟩
  have hf : fewP l 30 = true := by simpa using hf
  rw [hf] at HFw
  obtain ⟨hl30, hs2⟩ := of_decide_eq_true hf
  have hl30 : l.length ≤ 30 := by omega
  have HN2 : Hid (∀ w1 : World, Calls Try.prog 13 #[] w1 fun e w' => ∃ A F, e = .returned (.pointer (some ⟨A, 0, none⟩)) ∧ ArenaAt w1.heap.size A [] F w' ∧ Below w1.heap.size w1 w') := New_any
  have HMk : Hid (∀ (A B : Nat) (F F2 : Nat → Prop) (w1 w2 : World), ArenaAt w.heap.size A [] F w1 → Below w.heap.size w w1 → ArenaAt w1.heap.size B [] F2 w2 → Below w1.heap.size w1 w2 → Calls Try.prog 14 #[.pointer (some ⟨A, 0, none⟩), .slice ao0 l.length cap0] w2 fun e w' => ∃ L ids texts ai ci at' ct, (AllMade l.length L ids texts ∧ ids.length = l.length ∧ texts.length = l.length) ∧ e = .returned (.agg #[.slice ai l.length ci, .slice at' l.length ct]) ∧
      (∀ W3, W3 = w'.alloc (.cells #[.slice ai l.length ci, .slice at' l.length ct] 30) → Below w.heap.size w W3 ∧ ∃ bi oi bt ot, (l ≠ [] → ai = some ⟨bi, oi, none⟩ ∧ at' = some ⟨bt, ot, none⟩ ∧ ∀ k i t, ids[k]? = some i → texts[k]? = some t → W3.cell? ⟨bi, oi + k, none⟩ = some (.int .i64 i) ∧ W3.cell? ⟨bt, ot + k, none⟩ = some (.string (bs t))) ∧ W3.cell? ⟨w'.heap.size, 0, none⟩ = some (.slice ai l.length ci) ∧ W3.cell? ⟨w'.heap.size, 1, none⟩ = some (.slice at' l.length ct) ∧
        Two w.heap.size A B L (fun i => i = w'.heap.size ∨ (l ≠ [] ∧ (i = bi ∨ i = bt))) W3 0 W3)) := fun A B F F2 w1 w2 ha b1 ha2 b2 =>
    (makes_more hM (b1.trans (b2.mono b1.size)) (Nat.le_refl _) (ha.below b2) (by omega) (fun x hx => by have := hs2 x hx; omega) (made_ok (by omega))).mono (by
      rintro e w' ⟨L, ids, texts, vi, vt, F3, hto, rfl, ⟨ai, ci, rfl, hI⟩, ⟨at', ct, rfl, hT⟩, har, b3, hap⟩
      have hln := hto.lens
      have hA := hto.all exp_same (by omega)
      have hfew := hA.few
      have hla : l = [] → ids = [] ∧ texts = [] := fun h => by rw [h] at hln; exact ⟨List.eq_nil_of_length_eq_zero hln.1, List.eq_nil_of_length_eq_zero hln.2⟩
      refine ⟨L, ids, texts, ai, ci, at', ct, ⟨hA, hln.1, hln.2⟩, by rw [List.length_map, hln.1, hln.2], fun W3 hW3 => ?_⟩
      subst hW3
      have hba : Below w'.heap.size w' (w'.alloc (.cells #[.slice ai l.length ci, .slice at' l.length ct] 30)) := (Below.refl _ _).alloc (Nat.le_refl _) _
      have hbw' := (b1.trans (b2.mono b1.size)).trans b3
      have hbw : Below w.heap.size w (w'.alloc (.cells #[.slice ai l.length ci, .slice at' l.length ct] 30)) := hbw'.trans (hba.mono hbw'.size)
      have hN := Holds.new w' 30 #[.slice ai l.length ci, .slice at' l.length ct]
      have hB2 : ArenaAt w.heap.size B [] F2 w' := (ha2.moves hap.moves fun i h5 h6 => by have := (ha2.lt i h5).1; have := (ha.lt i h6).2; omega).lower (by have := b1.size; omega)
      have hdis : ∀ i, F3 i → ¬ F2 i := fun i h5 h6 => by
        have h7 := ha2.lt i h6
        rcases hap.grown i h5 with h8 | h8
        · have := (ha.lt i h8).2; omega
        · omega
      refine ⟨hbw, ?_⟩
      by_cases hne : l = []
      · refine ⟨0, 0, 0, 0, fun h => absurd hne h, hN.cell 0, hN.cell 1, ⟨⟨L, F3, [], F2, har.below hba, hB2.below hba, hdis, hA.good, Good.nil, List.prefix_refl _, by show _ ≤ 30; omega, by simp, ?_⟩, ?_, hbw.size, Below.refl _ _⟩⟩
        · rintro i (rfl | ⟨h, _⟩)
          · exact ⟨fun h => by have := (har.lt _ h).2; omega, fun h => by have := (hB2.lt _ h).2; omega⟩
          · exact absurd hne h
        · rintro i (rfl | ⟨h, _⟩)
          · exact ⟨hN.lt, rfl⟩
          · exact absurd hne h
      · obtain ⟨bi, oi, rfl, hbi, hci⟩ := hI (by intro h; rw [h] at hln; exact hne (List.eq_nil_of_length_eq_zero hln.1.symm))
        obtain ⟨bt, ot, rfl, hbt, hct⟩ := hT (by intro h; simp at h; rw [h] at hln; exact hne (List.eq_nil_of_length_eq_zero hln.2.symm))
        have xi := hap.ids bi rfl
        have xt := hap.texts bt rfl
        refine ⟨bi, oi, bt, ot, fun _ => ⟨rfl, rfl, fun k i t h1 h2 => ⟨(hba.cell (p := ⟨bi, oi + k, none⟩) hbi).trans (hci k i h1), (hba.cell (p := ⟨bt, ot + k, none⟩) hbt).trans (hct k (bs t) (by simp [h2]))⟩⟩, hN.cell 0, hN.cell 1, ⟨⟨L, F3, [], F2, har.below hba, hB2.below hba, hdis, hA.good, Good.nil, List.prefix_refl _, by show _ ≤ 30; omega, by simp, ?_⟩, ?_, hbw.size, Below.refl _ _⟩⟩
        · rintro i (rfl | ⟨_, rfl | rfl⟩)
          · exact ⟨fun h => by have := (har.lt _ h).2; omega, fun h => by have := (hB2.lt _ h).2; omega⟩
          · exact ⟨xi.1, fun h => by have := (ha2.lt _ h).2; omega⟩
          · exact ⟨xt.1, fun h => by have := (ha2.lt _ h).2; omega⟩
        · rintro i (rfl | ⟨_, rfl | rfl⟩)
          · exact ⟨hN.lt, rfl⟩
          · exact ⟨Nat.lt_of_lt_of_le hbi hba.size, rfl⟩
          · exact ⟨Nat.lt_of_lt_of_le hbt hba.size, rfl⟩)
  clear hs hl hs2 hf hM
  go_enter Try.func7, Try.ntmps7
  go_wp2_with (first
    | (go_at_call 11; with_reducible refine HFw.out.mono ?_; rintro e w1 ⟨rfl, hw⟩; have hw := hw.symm; subst hw)
    | (go_at_call 14; with_reducible refine (HMk.out _ _ _ _ _ _ ha1 b1 ha2 b2).mono ?_; rintro e w3 ⟨L, ids, texts, ai, ci, at', ct, hA, rfl, hW3⟩)
    | (have _h := ha1; go_at_call 13; with_reducible refine (HN2.out _).mono ?_; rintro e w2 ⟨B, F2, rfl, ha2, b2⟩)
    | (go_at_call 13; with_reducible refine (HN2.out _).mono ?_; rintro e w1 ⟨A, F, rfl, ha1, b1⟩))
  obtain ⟨W3, hWe⟩ : ∃ W3, W3 = w3.alloc (.cells #[.slice ai l.length ci, .slice at' l.length ct] 30) := ⟨_, rfl⟩
  obtain ⟨hbw3, bi, oi, bt, ot, hcells, hc0, hc1, hT0⟩ := hW3 W3 hWe
  rw [← hWe]
  obtain ⟨hAll, hil, htl⟩ := hA
  clear hW3 hWe ha1 b1 ha2 b2 HMk HN2 HFw _h
  generalize w3.heap.size = N at *
  obtain ⟨K, hK⟩ : ∃ K : Nat → Prop, K = fun i => i = N ∨ (l ≠ [] ∧ (i = bi ∨ i = bt)) := ⟨_, rfl⟩
  rw [← hK] at hT0
  have HK0 : Hid (∀ W m, Two w.heap.size A B L K W3 m W → W.cell? ⟨N, 0, none⟩ = some (.slice ai l.length ci) ∧ W.cell? ⟨N, 1, none⟩ = some (.slice at' l.length ct)) := fun W m h =>
    ⟨(h.cell (p := ⟨N, 0, none⟩) (by rw [hK]; exact .inl rfl)).trans hc0, (h.cell (p := ⟨N, 1, none⟩) (by rw [hK]; exact .inl rfl)).trans hc1⟩
  have HC : Hid (∀ W m, Two w.heap.size A B L K W3 m W → l ≠ [] → ai = some ⟨bi, oi, none⟩ ∧ at' = some ⟨bt, ot, none⟩ ∧ ∀ k i t, ids[k]? = some i → texts[k]? = some t → W.cell? ⟨bi, oi + k, none⟩ = some (.int .i64 i) ∧ W.cell? ⟨bt, ot + k, none⟩ = some (.string (bs t))) := fun W m h hne => by
    obtain ⟨e1, e2, e3⟩ := hcells hne
    exact ⟨e1, e2, fun k i t hi ht => ⟨(h.cell (p := ⟨bi, oi + k, none⟩) (by rw [hK]; exact .inr ⟨hne, .inl rfl⟩)).trans (e3 k i t hi ht).1, (h.cell (p := ⟨bt, ot + k, none⟩) (by rw [hK]; exact .inr ⟨hne, .inr rfl⟩)).trans (e3 k i t hi ht).2⟩⟩
  have HTA : Hid (∀ k i t, ids[k]? = some i → texts[k]? = some t → TAt L i t) := hAll.pairs.at_
  have HBW := Lib.hid hbw3
  have HT0 := Lib.hid hT0
  have HU := Lib.hid (U32_any n hn)
  have HR := Lib.hid (refU32_any n hn)
  have HNi := Lib.hid (Encode_nil 0)
  have hwn : IntKind.i64.wrap (n : Int) = n := IntWalk.i64_in _ (by omega)
  have hpp : ((bs (pack4 n)).toList == (bs (pack4 n)).toList) = true := by simp
  generalize bs (pack4 n) = PN at *
  have HJ := Lib.hid hil
  have HJ2 := Lib.hid htl
  clear hcells hc0 hc1 hK hAll hbw3 hT0 hil htl
  go_loopw [8] (fun i wr => ∃ j : Nat, j ≤ l.length ∧ i = .int .i64 j ∧ Two w.heap.size A B L K W3 (2 * j) wr) (fun i _ => l.length - (intOf i).toNat)
  case atStart => exact ⟨0, Nat.zero_le _, rfl, HT0.out⟩
  case round =>
    obtain ⟨j, hj, rfl, hT⟩ := hrel
    by_cases hlt : j < l.length
    · have hne : l ≠ [] := by intro h; simp [h] at hlt
      obtain ⟨y0, y1⟩ := HK0.out wr _ hT
      obtain ⟨rfl, rfl, hcc⟩ := HC.out wr _ hT hne
      obtain ⟨i, hi⟩ : ∃ i, ids[j]? = some i := ⟨_, List.getElem?_eq_getElem (by have := HJ.out; omega)⟩
      obtain ⟨t, ht⟩ : ∃ t, texts[j]? = some t := ⟨_, List.getElem?_eq_getElem (by have := HJ2.out; omega)⟩
      obtain ⟨y2, y3⟩ := hcc j i t hi ht
      have hta := HTA.out j i t hi ht
      have HTT := Lib.hid hT
      have HI := Lib.hid hi
      have HT' := Lib.hid ht
      have HE := Lib.hid (hT.encA hta)
      have hij : (i != i) = false := by simp
      clear hcc hi ht
      have HNE := Lib.hid hne
      clear hne
      have htt : ((bs t).toList == (bs t).toList) = true := by simp
      by_cases hte : t = []
      · have hem : (bs t).toList.isEmpty = true := none_yes hte
        have HTE := Lib.hid hte
        clear hta hT hte
        go_wp2_with (
          go_at_call 27
          with_reducible refine HE.out.mono ?_
          rintro e w4 ⟨rfl, b4⟩
          have hT4 := HTT.out.next b4
          obtain ⟨z0, z1⟩ := HK0.out _ _ hT4
          obtain ⟨_, _, hc4⟩ := HC.out _ _ hT4 HNE.out
          obtain ⟨z2, z3⟩ := hc4 j i t HI.out HT'.out
          clear hc4)
        go_roundw
        case rel => exact ⟨j + 1, by omega, by go_num, hT4.more (by omega)⟩
        case measure => simp [intOf]; omega
      · have hem : (bs t).toList.isEmpty = false := none_no hte
        have HD1 : Hid (∀ W, Two w.heap.size A B L K W3 (2 * j) W → Calls Try.prog 28 #[.pointer (some ⟨A, 0, none⟩), .string (bs t)] W fun e w' => e = .returned (.tuple #[.int .i64 i, .int .i64 0]) ∧ Two w.heap.size A B L K W3 (2 * j + 1) w') := fun W h => h.decA (by omega) hta hte
        have HD2 : Hid (∀ W, Two w.heap.size A B L K W3 (2 * j + 1) W → Calls Try.prog 28 #[.pointer (some ⟨B, 0, none⟩), .string (bs t)] W fun e w' => ∃ u : Int, e = .returned (.tuple #[.int .i64 u, .int .i64 0]) ∧ Two w.heap.size A B L K W3 (2 * j + 1 + 1) w' ∧ Hid (∀ W2, Below w'.heap.size w' W2 → Calls Try.prog 27 #[.pointer (some ⟨B, 0, none⟩), .int .i64 u] W2 fun e w' => e = .returned (.string (bs t)) ∧ Below W2.heap.size W2 w')) := fun W h => (h.decB (by omega) hta hte).mono fun e w' ⟨u, h1, h2, h3⟩ => ⟨u, h1, h2, h3⟩
        clear hta hT hte
        go_wp2_with (first
          | (
          go_at_call 27
          with_reducible refine HE.out.mono ?_
          rintro e w4 ⟨rfl, b4⟩
          have hT4 := HTT.out.next b4
          obtain ⟨z0, z1⟩ := HK0.out _ _ hT4
          obtain ⟨_, _, hc4⟩ := HC.out _ _ hT4 HNE.out
          obtain ⟨z2, z3⟩ := hc4 j i t HI.out HT'.out
          clear hc4)
          | (go_at_call 28
             with_reducible refine (HD2.out _ hT5).mono ?_
             rintro e w6 ⟨u, rfl, hT6, hEu⟩
             obtain ⟨x0, x1⟩ := HK0.out _ _ hT6
             obtain ⟨_, _, hc6⟩ := HC.out _ _ hT6 HNE.out
             obtain ⟨x2, x3⟩ := hc6 j i t HI.out HT'.out
             clear hc6)
          | (go_at_call 28
             with_reducible refine (HD1.out _ hT4).mono ?_
             rintro e w5 ⟨rfl, hT5⟩)
          | (go_at_call 27
             with_reducible refine (hEu.out _ (Below.refl _ _)).mono ?_
             rintro e w7 ⟨rfl, b7⟩
             have hT7 := hT6.next b7))
        go_roundw
        case rel => exact ⟨j + 1, by omega, by go_num, hT7.more (by omega)⟩
        case measure => simp [intOf]; omega
    · have hjl : j = l.length := by omega
      subst hjl
      have HEn := Lib.hid (fun W (h : Two w.heap.size A B L K W3 (2 * l.length) W) => h.encA (i := -1) (t := []) (.inl ⟨rfl, rfl⟩))
      have hem : (bs []).toList.isEmpty = true := none_yes rfl
      go_wp2_with (first
        | (go_at_call 26; with_reducible refine (HAw.out _).mono ?_; rintro e w4 ⟨rfl, b4⟩; have hT4 := hT.next b4)
        | (go_at_call 29; with_reducible refine (HU.out _).mono ?_; rintro e w5 ⟨rfl, b5⟩; have hT5 := hT4.next b5)
        | (go_at_call 30; with_reducible refine (HR.out _).mono ?_; rintro e w6 ⟨rfl, b6⟩; have hT6 := hT5.next b6)
        | (go_at_call 27; with_reducible refine (HEn.out _ hT6).mono ?_; rintro e w7 ⟨rfl, b7⟩; have hT7 := hT6.next b7)
        | (go_at_call 27; with_reducible refine (HNi.out _).mono ?_; rintro e w8 ⟨rfl, b8⟩; have hT8 := hT7.next b8))
      go_ret
      exact ⟨by simp, HBW.out.trans hT8.below⟩
end Go.Proofs.Ytamgbeinmfgglaa
