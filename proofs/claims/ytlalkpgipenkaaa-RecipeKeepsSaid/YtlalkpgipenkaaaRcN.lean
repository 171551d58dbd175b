/- Layer 14: what is made of what is known, and how it is viewed. -/
import Derived.Test.YtlalkpgipenkaaaRcL
namespace Go.Proofs.Ytlalkpgipenkaaa
open Go.RowKit

theorem keepsAll {B A n kk : Nat} {w0 W : World} {H x : Int} {hs : ByteArray} {ids known : List Int} {L0 : List Ent} {F0 : Nat → Prop} {vk : Value} {ao : Option Addr} {cap : Nat} {l : List OpR} (h : Kp B w0 A kk H hs x ids L0 n W) (hn : n ≤ 1000) (ha : ArenaAt B A L0 F0 W)
    (hk : IdsAt W vk known) (nk : ∀ k, vk.ownBlock = some k → k < W.heap.size ∧ ¬ F0 k) (hks : ∀ z ∈ known, SafeZ H False L0 z) (ho : OpsAt W (.slice ao l.length cap) l) (no : l ≠ [] → ∀ k, Value.ownBlock (.slice ao l.length cap) = some k → ¬ F0 k) (hl : l.length ≤ 70) (hS : ∀ o ∈ l, o.s.length ≤ 200) (hd : ∀ o ∈ l, o.kind = 0 → bs o.s ≠ hs) :
    Calls Try.prog 34 #[.pointer (some ⟨A, 0, none⟩), vk, vk, .slice ao l.length cap] W fun r w' => ∃ L rs vr F e, r = .returned vr ∧ IdsAt w' vr rs ∧ rs.length ≤ l.length ∧ ArenaAt B A L F w' ∧ Good L ∧ L[0]? = some e ∧ e.sh = ⟨3, kk, 0, noStr, []⟩ ∧ Below B W w' ∧
      (∀ (i : Nat) (z : Int), rs[i]? = some z → SafeZ H (BasedIn (l.take (i + 1))) L z) := by
  have hG := h.a.good
  have hlen := h.a.len
  by_cases h64 : l.length ≤ 64
  · refine (cAll_any ha hG (by omega) hk nk hk nk ho no h64 (fun o ho => by have := hS o ho; omega)).mono ?_
    rintro r w' ⟨L, rs, vr, F, rfl, hst, hid, har, hm, _, _⟩
    have g := hst.grown hG (by omega)
    obtain ⟨e, he, hsh⟩ := h.k.key
    exact ⟨L, rs, vr, F, e, rfl, hid, by rw [hst.lens]; exact Nat.le_refl _, har, g.good, pre_at g.pre he, hsh, hm.below (Nat.le_of_lt h.a.lt) (fun i hi => (ha.lt i hi).1), hst.safe hG h.k.hid hks hks (by omega) hd⟩
  · refine (cAll_long ao l.length cap (by omega) (by omega) vk vk).mono ?_
    rintro r w' ⟨rfl, hw⟩
    subst hw
    obtain ⟨e, he, hsh⟩ := h.k.key
    exact ⟨L0, [], _, F0, e, rfl, IdsAt.nil _, Nat.zero_le _, ha, hG, he, hsh, Below.refl _ _, fun i z hz => by simp at hz⟩

theorem viewNo {B A : Nat} {L : List Ent} {F : Nat → Prop} {w : World} (ha : ArenaAt B A L F w) :
    Calls Try.prog 35 #[.pointer (some ⟨A, 0, none⟩), .int .i64 (-1)] w fun r w' => r = .returned (.tuple #[.agg #[.int .i64 0, .int .i64 0, .int .i64 0, .string ⟨#[]⟩, .slice none 0 0], .bool false]) ∧ Below w.heap.size w w' :=
  View_no ha (-1) (.inl (by omega))
theorem viewYes {B A : Nat} {L : List Ent} {F : Nat → Prop} {w : World} (ha : ArenaAt B A L F w) {H : Int} {G : Prop} {i : Nat} (hz : Safe H G L i) :
    ∃ (K a : Int) (b : Nat) (s : ByteArray) (n : Nat), K ≠ 3 ∧ (K = 2 → a = 0) ∧ (i : Int) ≠ H ∧ (K = 5 → s = p256S → n = 0 → G) ∧
      Calls Try.prog 35 #[.pointer (some ⟨A, 0, none⟩), .int .i64 (i : Int)] w fun r w' => ∃ g, r = .returned (.tuple #[.agg #[.int .i64 K, .int .i64 a, .int .i64 b, .string s, .slice (some ⟨g, 0, none⟩) n n], .bool true]) ∧ Below w.heap.size w w' := by
  cases hz with
  | mk _ e he h3 h2 hH h5 h9 h10 =>
    exact ⟨e.sh.kind, e.sh.a, e.sh.b, e.sh.s, e.sh.args.length, by omega, fun hk => by have := h2 (by omega); omega, hH, fun hk hs hn => h5 (by omega) hs (List.length_eq_zero_iff.1 hn),
      (View_some ha he).mono fun r w' ⟨g, h1, _, hb⟩ => ⟨g, h1, hb⟩⟩
theorem node_cells (w : World) (K a : Int) (b : Nat) (s : ByteArray) (o : Option Addr) (n c : Nat) :
    (w.alloc (.cells #[.int .i64 K, .int .i64 a, .int .i64 b, .string s, .slice o n c] 65)).cell? ⟨w.heap.size, 0, none⟩ = some (.int .i64 K) ∧
    (w.alloc (.cells #[.int .i64 K, .int .i64 a, .int .i64 b, .string s, .slice o n c] 65)).cell? ⟨w.heap.size, 1, none⟩ = some (.int .i64 a) ∧
    (w.alloc (.cells #[.int .i64 K, .int .i64 a, .int .i64 b, .string s, .slice o n c] 65)).cell? ⟨w.heap.size, 3, none⟩ = some (.string s) ∧
    (w.alloc (.cells #[.int .i64 K, .int .i64 a, .int .i64 b, .string s, .slice o n c] 65)).cell? ⟨w.heap.size, 4, none⟩ = some (.slice o n c) := by
  have h := Holds.new w 65 #[.int .i64 K, .int .i64 a, .int .i64 b, .string s, .slice o n c]
  exact ⟨h.cell 0, h.cell 1, h.cell 3, h.cell 4⟩
end Go.Proofs.Ytlalkpgipenkaaa
