/- Layer 21: rows of six stored whole beside an arena. -/
import Derived.Test.YtemhifeddejkjaaKy5
import Derived.Laws.Tables
namespace Go.Proofs.Ytemhifeddejkjaa
open Go.RowKit

theorem step_store_rowK {P : Program} {ops : Array Oper} {o : Oper} {a : Act} {w : World} {K : Act → World → Prop} {Q : Exit → Act → World → Prop} {E : Prop} (hgd : o.guard = none) (ty : TypeId) (x y : Operand) (ho : o.op = .store ty x y)
    (g : Nat) (cells : Array Value) (hx : a.eval x = .pointer (some ⟨g, 0, none⟩)) (hy : a.eval y = .agg cells)
    (t : TypeId) (old : Array Value) (hg : w.heap[g]? = some (.cells old t (0, 0))) (hi : (P.info? ty).map (·.size) = some cells.size)
    (hold : old.size = cells.size) (h1 : cells.all (·.oneCell') = true)
    (h : K (a.put o.dst undef) (w.setRow g cells)) : if Region.wanted o (yielded ops a.tmps) = true then Oper.wp P o a w K Q else E := by
  have hw : Region.wanted o (yielded ops a.tmps) = true := by simp [Region.wanted, hgd]
  rw [if_pos hw]
  exact wp_store_row ty x y ho g cells hx hy t old hg hi hold h1 h
set_option maxRecDepth 100000 in
theorem sizeSixK : (Try.prog.info? 36).map (·.size) = some 6 := by kernel_rfl
theorem moves_row (w : World) (g : Nat) (cs : Array Value) : Moves (fun i => i = g) w (w.setRow g cs) :=
  ⟨rfl, rfl, rfl, by simp, fun k _ hk => setRow_other w g k cs hk⟩
section
variable {B A n : Nat} {w0 W W5 : World} {P : List (Int × List UInt8)} {zs : List Nat}
theorem Gs.mem2 {b c : Nat} (h : Gs B w0 A P n W5 [c, b] W) : b ≠ c := fun e => (List.nodup_cons.1 h.apart).1 (e ▸ .head _)
/-- The first store. -/
theorem gs_row {b c : Nat} (h : Gs B w0 A P n W5 zs W) (hb : b ∈ zs) (hc : c ∈ zs) (hne : b ≠ c) (S : Array Value) : Kept W5 (W.setRow b S) ∧ Holds (W.setRow b S) c 36 #[.int .i64 0, .int .i64 0, .int .i64 0, .int .i64 0, .int .i64 0, .int .i64 0] :=
  ⟨h.kept.past (h.row b hb).2.1 (moves_row W b S), (h.row c hc).1.moves (moves_row W b S) (fun e => hne e.symm)⟩
/-- Both stores. -/
theorem gs_rows {b c : Nat} (h : Gs B w0 A P n W5 zs W) (hb : b ∈ zs) (hc : c ∈ zs) (hne : b ≠ c) (S T : Array Value) : SixTwo B w0 A P n W5 S T b c ((W.setRow b S).setRow c T) := by
  obtain ⟨h1, h2, h3⟩ := h.row b hb
  obtain ⟨g1, g2, g3⟩ := h.row c hc
  have m := moves_row W b S
  have mm := moves_row (W.setRow b S) c T
  have hc1 := g1.moves m (fun e => hne e.symm)
  have hs : Holds (W.setRow b S) b 36 S := setRow_heap W b _ S _ _ h1
  have ht : Holds ((W.setRow b S).setRow c T) c 36 T := setRow_heap _ c _ T _ _ hc1
  exact ⟨(h.ta.past h1 h3 m).past hc1 g3 mm, (h.kept.past h2 m).past g2 mm, hs.moves mm (fun e => hne e), ht⟩
end
end Go.Proofs.Ytemhifeddejkjaa
