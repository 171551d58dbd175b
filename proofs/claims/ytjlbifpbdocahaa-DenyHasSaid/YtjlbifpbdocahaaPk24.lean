/- Part 24 of what the statement wants. -/
import Derived.Deep.DeepCutAuto
import Derived.Deep.CutRange
import Derived.Deep.RegionWith
import Derived.Deep.RegionHeld3
import Derived.Laws.EntriesVeiled
import Derived.Test.YtjlbifpbdocahaaPk17
import Derived.Test.YtjlbifpbdocahaaPk20
import Derived.Test.YtjlbifpbdocahaaPk21
import Derived.Test.YtjlbifpbdocahaaPk22
import Derived.Test.YtjlbifpbdocahaaPk23
namespace Go.Proofs.Ytjlbifpbdocahaa
open Go.RowKit

end Go.Proofs.Ytjlbifpbdocahaa

namespace Go.Proofs.Ytjlbifpbdocahaa
open Go.RowKit

def idCells (l : List Int) : List Value := l.map (.int .i64 ·)
theorem IdsAt.ofRow {w : World} {base : Nat} {v : Value} {l : List Int} (h : w.ownsRow base 33 1 v l.length (idCells l)) (hn : l = [] → v = .slice none 0 0) : IdsAt w v l := by
  by_cases hl : l = []
  · subst hl
    rw [hn rfl]
    exact IdsAt.nil w
  · have hown := h
    obtain ⟨_, hcase⟩ := h
    rcases hcase with ⟨_, h0⟩ | ⟨g, cap', cur, rfl, hg, hh, hn, hcap, hsz, htake⟩
    · exact absurd (List.length_eq_zero_iff.1 h0) hl
    · refine ⟨some ⟨g, 0, none⟩, cap', rfl, fun _ => ⟨g, 0, rfl, (Array.getElem?_eq_some_iff.1 hh).1, fun k x hk => ?_⟩⟩
      have hk' := (List.getElem?_eq_some_iff.1 hk).1
      rw [Nat.zero_add, hown.cellAt k (by omega)]
      simp [idCells, hk]
theorem IdsAt.below {w w' : World} {v : Value} {l : List Int} (h : IdsAt w v l) (hb : Below w.heap.size w w') : IdsAt w' v l :=
  h.keep hb.size fun _ _ _ _ _ hlt => hb.cell hlt
end Go.Proofs.Ytjlbifpbdocahaa

namespace Go.Proofs.Ytjlbifpbdocahaa
open Go.RowKit

def pickP (ids : List Int) (texts : List (List UInt8)) (i : Int) : Int × List UInt8 := if 0 ≤ i ∧ i < ids.length then (ids.getD i.toNat (-1), texts.getD i.toNat []) else (-1, [])
def letterL (s : List UInt8) : UInt8 := s.headD 0

end Go.Proofs.Ytjlbifpbdocahaa

namespace Go.Proofs.Ytjlbifpbdocahaa
open Go.RowKit

def runN (len : Nat) (from' many : Int) : Nat := if 0 ≤ from' ∧ from' ≤ len then min (min many.toNat 40) (len - from'.toNat) else 0
def runP {α : Type} (l : List α) (len : Nat) (from' many : Int) : List α := (l.drop from'.toNat).take (runN len from' many)
end Go.Proofs.Ytjlbifpbdocahaa

namespace Go.Proofs.Ytjlbifpbdocahaa
open Go.RowKit

structure MakeR where
  kind : Int
  a : Int
  b : Int
  c : Int
  s : List UInt8
def mtextP (ids : List Int) (texts : List (List UInt8)) (x : MakeR) : List UInt8 :=
  if x.kind = 1 then refDataL x.s
  else if x.kind = 2 then refNonceL x.a x.b
  else if x.kind = 3 then refKeyL x.a
  else if x.kind = 4 then refPubL (pickP ids texts x.a).2
  else if x.kind = 5 then (if x.a < 0 then refBaseL x.s else refExpL (pickP ids texts x.a).2 (pickP ids texts x.b).2)
  else if x.kind = 6 then refSignL x.s (pickP ids texts x.a).2 (pickP ids texts x.b).2
  else if x.kind = 7 then refHashL (pickP ids texts x.a).2
  else if x.kind = 8 then refDeriveL (letterL x.s) (pickP ids texts x.a).2 (pickP ids texts x.b).2 (pickP ids texts x.c).2
  else if x.kind = 9 then refSealL (pickP ids texts x.a).2 (x.c % 4294967296).toNat (pickP ids texts x.b).2
  else if x.kind = 10 then refListL (runP texts ids.length x.a x.b)
  else []
end Go.Proofs.Ytjlbifpbdocahaa

namespace Go.Proofs.Ytjlbifpbdocahaa
open Go.RowKit

def IdTo (L : List Ent) (ids : List Int) (texts : List (List UInt8)) (x : MakeR) (m : Int × List Ent) : Prop :=
  if x.kind = 1 then m = dataM L (bs x.s)
  else if x.kind = 2 then m = nonceM L x.a x.b
  else if x.kind = 3 then m = keyM L x.a
  else if x.kind = 4 then m = pubM L (pickP ids texts x.a).1
  else if x.kind = 5 then (if x.a < 0 then m = baseM L (bs x.s) else ExpTo L (pickP ids texts x.a).1 (pickP ids texts x.b).1 m)
  else if x.kind = 6 then m = signM L (bs x.s) (pickP ids texts x.a).1 (pickP ids texts x.b).1
  else if x.kind = 7 then m = hashM L (pickP ids texts x.a).1
  else if x.kind = 8 then m = deriveM L (letterL x.s).toNat (pickP ids texts x.a).1 (pickP ids texts x.b).1 (pickP ids texts x.c).1
  else if x.kind = 9 then m = sealM L (pickP ids texts x.a).1 (x.c % 4294967296).toNat (pickP ids texts x.b).1
  else if x.kind = 10 then m = listM L (runP ids ids.length x.a x.b)
  else m = (-1, L)
end Go.Proofs.Ytjlbifpbdocahaa

namespace Go.Proofs.Ytjlbifpbdocahaa
open Go.RowKit

end Go.Proofs.Ytjlbifpbdocahaa

namespace Go.Proofs.Ytjlbifpbdocahaa
open Go.RowKit

/-- What is made, one behind the other, from the arena L0 on. -/
inductive MadeTo (L0 : List Ent) : List MakeR → List Ent → List Int → List (List UInt8) → Prop
  | nil : MadeTo L0 [] L0 [] []
  | snoc {xs : List MakeR} {L : List Ent} {ids : List Int} {texts : List (List UInt8)} {x : MakeR} {m : Int × List Ent} (h : MadeTo L0 xs L ids texts) (k : IdTo L ids texts x m) : MadeTo L0 (xs ++ [x]) m.2 (ids ++ [m.1]) (texts ++ [mtextP ids texts x])
end Go.Proofs.Ytjlbifpbdocahaa

namespace Go.Proofs.Ytjlbifpbdocahaa
open Go.RowKit

/-- The terms that were made, each beside its text. -/
structure Paired (L : List Ent) (ids : List Int) (texts : List (List UInt8)) : Prop where
  len : ids.length = texts.length
  at_ : ∀ (k : Nat) (i : Int) (t : List UInt8), ids[k]? = some i → texts[k]? = some t → TAt L i t
theorem Paired.pick {L : List Ent} {ids : List Int} {texts : List (List UInt8)} (h : Paired L ids texts) (i : Int) : TAt L (pickP ids texts i).1 (pickP ids texts i).2 := by
  unfold pickP
  split
  · rename_i hh
    have hk : i.toNat < ids.length := by omega
    have hkt : i.toNat < texts.length := by rw [← h.len]; exact hk
    refine h.at_ i.toNat _ _ ?_ ?_
    · simp [List.getD, hk]
    · simp [List.getD, hkt]
  · exact .inl ⟨rfl, rfl⟩
theorem Paired.pre {L M : List Ent} {ids : List Int} {texts : List (List UInt8)} (h : Paired L ids texts) (hG : Good M) (hp : L <+: M) : Paired M ids texts :=
  ⟨h.len, fun k i t h1 h2 => (h.at_ k i t h1 h2).pre hG hp⟩
theorem Paired.snoc {L : List Ent} {ids : List Int} {texts : List (List UInt8)} (h : Paired L ids texts) {i : Int} {t : List UInt8} (ht : TAt L i t) : Paired L (ids ++ [i]) (texts ++ [t]) := by
  refine ⟨by simp [h.len], fun k j u h1 h2 => ?_⟩
  by_cases hk : k < ids.length
  · rw [List.getElem?_append_left hk] at h1
    rw [List.getElem?_append_left (by rw [← h.len]; exact hk)] at h2
    exact h.at_ k j u h1 h2
  · rw [List.getElem?_append_right (by omega)] at h1
    rw [List.getElem?_append_right (by rw [← h.len]; omega), ← h.len] at h2
    have h0 : k - ids.length = 0 := by
      have := (List.getElem?_eq_some_iff.1 h1).1
      simpa using this
    rw [h0] at h1 h2
    simp at h1 h2
    rw [← h1, ← h2]
    exact ht
theorem Paired.run {L : List Ent} {ids : List Int} {texts : List (List UInt8)} (h : Paired L ids texts) (f m : Int) : TAts L (runP ids ids.length f m) (runP texts ids.length f m) := by
  refine tats_of _ _ ?_ ?_
  · unfold runP
    simp [h.len]
  · intro k i t h1 h2
    unfold runP at h1 h2
    rw [List.getElem?_take] at h1 h2
    split at h1
    · rename_i hk
      rw [if_pos hk, List.getElem?_drop] at h2
      rw [List.getElem?_drop] at h1
      exact h.at_ _ i t h1 h2
    · cases h1

theorem step_same (hx : ExpSame) {L : List Ent} (hG : Good L) (hlen : L.length < 1073741824) {ids : List Int} {texts : List (List UInt8)} (hp : Paired L ids texts) (x : MakeR) {m : Int × List Ent} (hm : IdTo L ids texts x m) : Same L m (mtextP ids texts x) := by
  unfold IdTo at hm
  unfold mtextP
  have pa := hp.pick x.a
  have pb := hp.pick x.b
  have pc := hp.pick x.c
  by_cases h1 : x.kind = 1
  · rw [if_pos h1] at hm ⊢; rw [hm]; exact data_same hG hlen _
  rw [if_neg h1] at hm ⊢
  by_cases h2 : x.kind = 2
  · rw [if_pos h2] at hm ⊢; rw [hm]; exact nonce_same hG hlen _ _
  rw [if_neg h2] at hm ⊢
  by_cases h3 : x.kind = 3
  · rw [if_pos h3] at hm ⊢; rw [hm]; exact key_same hG hlen _
  rw [if_neg h3] at hm ⊢
  by_cases h4 : x.kind = 4
  · rw [if_pos h4] at hm ⊢; rw [hm]; exact pub_same hG hlen pa
  rw [if_neg h4] at hm ⊢
  by_cases h5 : x.kind = 5
  · rw [if_pos h5] at hm ⊢
    by_cases ha : x.a < 0
    · rw [if_pos ha] at hm ⊢; rw [hm]; exact base_same hG hlen _
    · rw [if_neg ha] at hm ⊢; exact hx L _ _ _ _ m hG hlen pa pb hm
  rw [if_neg h5] at hm ⊢
  by_cases h6 : x.kind = 6
  · rw [if_pos h6] at hm ⊢; rw [hm]; exact sign_same hG hlen _ pa pb
  rw [if_neg h6] at hm ⊢
  by_cases h7 : x.kind = 7
  · rw [if_pos h7] at hm ⊢; rw [hm]; exact hash_same hG hlen pa
  rw [if_neg h7] at hm ⊢
  by_cases h8 : x.kind = 8
  · rw [if_pos h8] at hm ⊢; rw [hm]; exact derive_same hG hlen _ pa pb pc
  rw [if_neg h8] at hm ⊢
  by_cases h9 : x.kind = 9
  · rw [if_pos h9] at hm ⊢; rw [hm]; exact seal_same hG hlen _ (by omega) pa pb
  rw [if_neg h9] at hm ⊢
  by_cases h10 : x.kind = 10
  · rw [if_pos h10] at hm ⊢; rw [hm]; exact list_same hG hlen (hp.run _ _)
  rw [if_neg h10] at hm ⊢
  rw [hm]
  exact Same.none hG
/-- What holds of all that was made. -/
structure AllMade (n : Nat) (L : List Ent) (ids : List Int) (texts : List (List UInt8)) : Prop where
  good : Good L
  few : L.length ≤ n
  pairs : Paired L ids texts
theorem MadeTo.all (hx : ExpSame) {xs : List MakeR} {L : List Ent} {ids : List Int} {texts : List (List UInt8)} (h : MadeTo [] xs L ids texts) : xs.length < 1073741824 → AllMade xs.length L ids texts := by
  induction h with
  | nil => exact fun _ => ⟨Good.nil, by simp, ⟨rfl, fun k i t h1 _ => by simp at h1⟩⟩
  | @snoc xs L ids texts x m h k ih =>
    intro hl
    simp only [List.length_append, List.length_cons, List.length_nil] at hl
    have hA := ih (by omega)
    have hfew := hA.few
    have hS := step_same hx hA.good (by omega) hA.pairs x k
    have hmore := hS.more
    refine ⟨hS.good, ?_, (hA.pairs.pre hS.good hS.pre).snoc hS.is⟩
    simp only [List.length_append, List.length_cons, List.length_nil]
    omega
def mostOf (l : List Int) : Int := l.foldl (fun m i => if i > m then i else m) (-1)
theorem mostOf_snoc (l : List Int) (i : Int) : mostOf (l ++ [i]) = if i > mostOf l then i else mostOf l := by simp [mostOf]
structure InOrder (L : List Ent) (ids : List Int) : Prop where
  all : ∀ k i, ids[k]? = some i → -1 ≤ i ∧ i ≤ mostOf (ids.take k) + 1
  last : (L.length : Int) = mostOf ids + 1
theorem MadeTo.order {xs : List MakeR} {L : List Ent} {ids : List Int} {texts : List (List UInt8)} (h : MadeTo [] xs L ids texts) : xs.length < 1073741824 → InOrder L ids := by
  induction h with
  | nil => exact fun _ => ⟨fun k i h => by simp at h, rfl⟩
  | @snoc xs L ids texts x m h k ih =>
    intro hl
    simp only [List.length_append, List.length_cons, List.length_nil] at hl
    have hA := h.all exp_same (by omega)
    have hO := ih (by omega)
    have hfew := hA.few
    have hS := step_same exp_same hA.good (by omega) hA.pairs x k
    have hlast := hO.last
    have hm : -1 ≤ m.1 ∧ m.1 < (m.2.length : Int) := by
      rcases hS.is with ⟨h1, _⟩ | ⟨n, h1, h2, _⟩
      · omega
      · omega
    have hnew := hS.new
    refine ⟨fun j i hj => ?_, ?_⟩
    · by_cases hjl : j < ids.length
      · rw [List.getElem?_append_left hjl] at hj
        rw [List.take_append_of_le_length (by omega)]
        exact hO.all j i hj
      · rw [List.getElem?_append_right (by omega)] at hj
        have h0 : j - ids.length = 0 := by
          have := (List.getElem?_eq_some_iff.1 hj).1
          simpa using this
        have hje : j = ids.length := by omega
        rw [h0] at hj
        simp at hj
        rw [hje, List.take_left, ← hj]
        omega
    · rw [mostOf_snoc]
      split <;> omega
end Go.Proofs.Ytjlbifpbdocahaa

namespace Go.Proofs.Ytjlbifpbdocahaa
open Go.RowKit

end Go.Proofs.Ytjlbifpbdocahaa

namespace Go.Proofs.Ytjlbifpbdocahaa
open Go.RowKit

set_option maxRecDepth 100000 in
theorem View_has {p : Value} {i : Int} {w : World} (hh : ∀ W, Below w.heap.size w W → Calls Try.prog 56 #[p, .int .i64 i] W fun e w' => e = .returned (.bool false) ∧ W = w') :
    Calls Try.prog 31 #[p, .int .i64 i] w fun r w' => r = .returned (.tuple #[noNode, .bool false]) ∧ Below w.heap.size w w' := by
  have hb : Below w.heap.size w (w.alloc (.cells #[.int .i64 0, .int .i64 0, .int .i64 0, .string ⟨#[]⟩, .slice none 0 0] 73)) := (Below.refl _ _).alloc (Nat.le_refl _) _
  have hc := hh _ hb
  have hN : Holds (w.alloc (.cells #[.int .i64 0, .int .i64 0, .int .i64 0, .string ⟨#[]⟩, .slice none 0 0] 73)) w.heap.size 73 #[.int .i64 0, .int .i64 0, .int .i64 0, .string ⟨#[]⟩, .slice none 0 0] := Holds.new w _ _
  go_enter Try.func31, Try.ntmps31
  go_wp2_with (go_at_call 56; refine hc.mono ?_; rintro r w' ⟨rfl, rfl⟩)
  refine bodyPost_ret (v := .tuple #[noNode, .bool false]) ?_ rfl ⟨rfl, hb⟩
  exact run_cell_tmp rfl _ _ w.heap.size _ _ _ rfl rfl hN Try.underlying73 rfl (by kernel_rfl)
theorem nView_no {B A : Nat} {L : List Ent} {F : Nat → Prop} {w : World} (ha : ArenaAt B A L F w) (i : Int) (hi : i < 0 ∨ L.length ≤ i) :
    Calls Try.prog 31 #[.pointer (some ⟨A, 0, none⟩), .int .i64 i] w fun r w' => r = .returned (.tuple #[noNode, .bool false]) ∧ Below w.heap.size w w' :=
  View_has fun _W hW => has_no (ha.below hW) i hi
end Go.Proofs.Ytjlbifpbdocahaa
