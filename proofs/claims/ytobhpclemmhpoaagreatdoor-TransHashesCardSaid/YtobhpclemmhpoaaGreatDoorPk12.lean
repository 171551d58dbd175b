/- Part 12 of what the statement wants. -/
import Derived.Laws.Concat
import Derived.Deep.RegionHeld3
import Derived.Lib.AppendStr
import Derived.Test.YtobhpclemmhpoaaGreatDoorPk11
namespace Go.Proofs.YtobhpclemmhpoaaGreatDoor
open Go.RowKit

set_option maxRecDepth 100000 in
theorem head_2 (a b : Nat) (ha : a ≤ 4294967295) (hb : b ≤ 4294967295) (s : ByteArray) (v : Value) (w : World) :
    Calls Tryz.prog 25 #[.agg #[.int .i64 2, .int .i64 a, .int .i64 b, .string s, v]] w fun e w' => e = .returned (.string (bs (242 :: (pack4 a ++ pack4 b)))) ∧ Below w.heap.size w w' := by
  have hcv := run_string_new (w.alloc (.cells #[.int .i64 2, .int .i64 a, .int .i64 b, .string s, v] 60)) [242] (by simp) #[.int .u8 242] (by rfl)
  have hl1 : ([242] : List UInt8).length = 1 := rfl
  rw [hl1, World.size_alloc] at hcv
  have h1 : (bs [242]).size ≤ 1 := by rw [bs_size]; exact Nat.le_refl _
  have hva := fun W => U32_any a (by omega) W
  have hvb := fun W => U32_any b (by omega) W
  have hpa : (bs (pack4 a)).size ≤ 4 := by rw [bs_size]; exact Nat.le_refl _
  have hpb : (bs (pack4 b)).size ≤ 4 := by rw [bs_size]; exact Nat.le_refl _
  have hwa : IntKind.u32.wrap (a : Int) = a := IntWalk.u32_in _ (by omega)
  have hwb : IntKind.u32.wrap (b : Int) = b := IntWalk.u32_in _ (by omega)
  have he := Lib.hid (show bs [242] ++ bs (pack4 a) ++ bs (pack4 b) = bs (242 :: (pack4 a ++ pack4 b)) from by rw [bs_append, bs_append]; rfl)
  clear hl1 ha hb
  generalize bs [242] = K at *
  generalize bs (pack4 a) = P at *
  generalize bs (pack4 b) = Q at *
  have g1 : ∀ W : World, (Op.stringOp .add K P).run Tryz.prog W = .ok (.string (K ++ P)) W := fun W => run_string_add_sum (P := Tryz.prog) W K P (by omega)
  have g2 : ∀ W : World, (Op.stringOp .add (K ++ P) Q).run Tryz.prog W = .ok (.string (K ++ P ++ Q)) W := fun W => run_string_add_sum (P := Tryz.prog) W (K ++ P) Q (by rw [ByteArray.size_append]; omega)
  generalize K ++ P ++ Q = E2 at *
  generalize K ++ P = E1 at *
  clear h1 hpa hpb
  go_enter Tryz.func25, Tryz.ntmps25
  go_wp2_with fail
  have hw : Below w.heap.size w ((w.alloc (.cells #[.int .i64 2, .int .i64 a, .int .i64 b, .string s, v] 60)).alloc (.cells #[.int .u8 242] 5)) := ((Below.refl _ _).alloc (Nat.le_refl _) _).alloc (by simp) _
  have hN : Holds ((w.alloc (.cells #[.int .i64 2, .int .i64 a, .int .i64 b, .string s, v] 60)).alloc (.cells #[.int .u8 242] 5)) w.heap.size 60 #[.int .i64 2, .int .i64 a, .int .i64 b, .string s, v] :=
    Holds.moves (S := nobody) (Holds.new w _ _) ((Moves.refl nobody _).alloc _) fun h => h
  clear hcv
  generalize (w.alloc (.cells #[.int .i64 2, .int .i64 a, .int .i64 b, .string s, v] 60)).alloc (.cells #[.int .u8 242] 5) = W0 at *
  have hNl := hN.lt
  have y1 : W0.drew.cell? ⟨w.heap.size, 1, none⟩ = some (.int .i64 a) := hN.cell 1
  have y2 : W0.drew.cell? ⟨w.heap.size, 2, none⟩ = some (.int .i64 b) := hN.cell 2
  have hbd : Below w.heap.size w W0.drew := hw.drew
  have hsz : w.heap.size < W0.drew.heap.size := hNl
  clear hN hw hNl
  generalize hHH : w.heap.size = H at *
  have HH := Lib.hid hHH
  clear hHH
  go_region_held3 (fun w' => w'.cell? ⟨H, 1, none⟩ = some (.int .i64 a) ∧ w'.cell? ⟨H, 2, none⟩ = some (.int .i64 b)) (first | with_reducible exact ⟨y1, y2⟩ | with_reducible exact ⟨z1, z2⟩ | with_reducible exact ⟨u1, u2⟩)
    (first
    | (go_at_call 60
       with_reducible refine (hva _).mono ?_
       rintro r w1 ⟨rfl, hb1⟩
       have z1 := (hb1.cell (p := ⟨H, 1, none⟩) hsz).trans y1
       have z2 := (hb1.cell (p := ⟨H, 2, none⟩) hsz).trans y2)
    | (go_at_call 60
       with_reducible refine (hvb _).mono ?_
       rintro r w2 ⟨rfl, hb2⟩
       have u1 := (hb2.cell (p := ⟨H, 1, none⟩) (Nat.lt_of_lt_of_le hsz hb1.size)).trans z1
       have u2 := (hb2.cell (p := ⟨H, 2, none⟩) (Nat.lt_of_lt_of_le hsz hb1.size)).trans z2))
  all_goals
    go_wp2_with fail
    go_ret
    exact ⟨by rw [← he.out]; rfl, by rw [HH.out]; exact hbd.trans ((hb1.mono (Nat.le_of_lt hsz)).trans (hb2.mono (Nat.le_trans (Nat.le_of_lt hsz) hb1.size)))⟩
end Go.Proofs.YtobhpclemmhpoaaGreatDoor

namespace Go.Proofs.YtobhpclemmhpoaaGreatDoor
open Go.RowKit

set_option maxRecDepth 100000 in
theorem head_5 (x y : Int) (s : ByteArray) (hs : s.size ≤ 1000000) (o : Option Addr) (m c : Nat) (hm : m ≤ 65536) (w : World) :
    Calls Tryz.prog 25 #[.agg #[.int .i64 5, .int .i64 x, .int .i64 y, .string s, .slice o m c]] w fun e w' => e = .returned (.string (bs (245 :: (cnt s.data.toList ++ pack4 m)))) ∧ Below w.heap.size w w' := by
  have hcv := run_string_new (w.alloc (.cells #[.int .i64 5, .int .i64 x, .int .i64 y, .string s, .slice o m c] 60)) [245] (by simp) #[.int .u8 245] (by rfl)
  have hl1 : ([245] : List UInt8).length = 1 := rfl
  rw [hl1, World.size_alloc] at hcv
  have h1 : (bs [245]).size ≤ 1 := by rw [bs_size]; exact Nat.le_refl _
  have hva := fun W => counted_any s hs W
  have hvb := fun W => U32_any m (by omega) W
  have hpa : (bs (cnt s.data.toList)).size ≤ 1000004 := by rw [bs_size, cnt_length]; omega
  have hpb : (bs (pack4 m)).size ≤ 4 := by rw [bs_size]; exact Nat.le_refl _
  have hwb : IntKind.u32.wrap (m : Int) = m := IntWalk.u32_in _ (by omega)
  have he := Lib.hid (show bs [245] ++ bs (cnt s.data.toList) ++ bs (pack4 m) = bs (245 :: (cnt s.data.toList ++ pack4 m)) from by rw [bs_append, bs_append]; rfl)
  clear hl1 hs hm
  generalize bs [245] = K at *
  generalize bs (cnt s.data.toList) = P at *
  generalize bs (pack4 m) = Q at *
  have g1 : ∀ W : World, (Op.stringOp .add K P).run Tryz.prog W = .ok (.string (K ++ P)) W := fun W => run_string_add_sum (P := Tryz.prog) W K P (by omega)
  have g2 : ∀ W : World, (Op.stringOp .add (K ++ P) Q).run Tryz.prog W = .ok (.string (K ++ P ++ Q)) W := fun W => run_string_add_sum (P := Tryz.prog) W (K ++ P) Q (by rw [ByteArray.size_append]; omega)
  generalize K ++ P ++ Q = E2 at *
  generalize K ++ P = E1 at *
  clear h1 hpa hpb
  go_enter Tryz.func25, Tryz.ntmps25
  go_wp2_with fail
  have hw : Below w.heap.size w ((w.alloc (.cells #[.int .i64 5, .int .i64 x, .int .i64 y, .string s, .slice o m c] 60)).alloc (.cells #[.int .u8 245] 5)) := ((Below.refl _ _).alloc (Nat.le_refl _) _).alloc (by simp) _
  have hN : Holds ((w.alloc (.cells #[.int .i64 5, .int .i64 x, .int .i64 y, .string s, .slice o m c] 60)).alloc (.cells #[.int .u8 245] 5)) w.heap.size 60 #[.int .i64 5, .int .i64 x, .int .i64 y, .string s, .slice o m c] :=
    Holds.moves (S := nobody) (Holds.new w _ _) ((Moves.refl nobody _).alloc _) fun h => h
  clear hcv
  generalize (w.alloc (.cells #[.int .i64 5, .int .i64 x, .int .i64 y, .string s, .slice o m c] 60)).alloc (.cells #[.int .u8 245] 5) = W0 at *
  have hNl := hN.lt
  have y1 : W0.drew.cell? ⟨w.heap.size, 3, none⟩ = some (.string s) := hN.cell 3
  have y2 : W0.drew.cell? ⟨w.heap.size, 4, none⟩ = some (.slice o m c) := hN.cell 4
  have hbd : Below w.heap.size w W0.drew := hw.drew
  have hsz : w.heap.size < W0.drew.heap.size := hNl
  clear hN hw hNl
  generalize hHH : w.heap.size = H at *
  have HH := Lib.hid hHH
  clear hHH
  go_region_held3 (fun w' => w'.cell? ⟨H, 3, none⟩ = some (.string s) ∧ w'.cell? ⟨H, 4, none⟩ = some (.slice o m c)) (first | with_reducible exact ⟨y1, y2⟩ | with_reducible exact ⟨z1, z2⟩ | with_reducible exact ⟨u1, u2⟩)
    (first
    | (go_at_call 59
       with_reducible refine (hva _).mono ?_
       rintro r w1 ⟨rfl, hb1⟩
       have z1 := (hb1.cell (p := ⟨H, 3, none⟩) hsz).trans y1
       have z2 := (hb1.cell (p := ⟨H, 4, none⟩) hsz).trans y2)
    | (go_at_call 60
       with_reducible refine (hvb _).mono ?_
       rintro r w2 ⟨rfl, hb2⟩
       have u1 := (hb2.cell (p := ⟨H, 3, none⟩) (Nat.lt_of_lt_of_le hsz hb1.size)).trans z1
       have u2 := (hb2.cell (p := ⟨H, 4, none⟩) (Nat.lt_of_lt_of_le hsz hb1.size)).trans z2))
  all_goals
    go_wp2_with fail
    go_ret
    exact ⟨by rw [← he.out]; rfl, by rw [HH.out]; exact hbd.trans ((hb1.mono (Nat.le_of_lt hsz)).trans (hb2.mono (Nat.le_trans (Nat.le_of_lt hsz) hb1.size)))⟩

set_option maxRecDepth 100000 in
theorem head_8 (x : Int) (b : Nat) (hb : b ≤ 255) (s : ByteArray) (v : Value) (w : World) :
    Calls Tryz.prog 25 #[.agg #[.int .i64 8, .int .i64 x, .int .i64 b, .string s, v]] w fun e w' => e = .returned (.string (bs [248, UInt8.ofNat b])) ∧ Below w.heap.size w w' := by
  have hcv := run_string_new (w.alloc (.cells #[.int .i64 8, .int .i64 x, .int .i64 b, .string s, v] 60)) [248] (by simp) #[.int .u8 248] (by rfl)
  have hl1 : ([248] : List UInt8).length = 1 := rfl
  rw [hl1, World.size_alloc] at hcv
  have hbn : (UInt8.ofNat b).toNat = b := by rw [UInt8.toNat_ofNat']; omega
  have hcw := run_string_new ((w.alloc (.cells #[.int .i64 8, .int .i64 x, .int .i64 b, .string s, v] 60)).alloc (.cells #[.int .u8 248] 5)) [UInt8.ofNat b] (by simp) #[.int .u8 b] (by simp [byteCells, hbn])
  have hl2 : ([UInt8.ofNat b] : List UInt8).length = 1 := rfl
  rw [hl2, World.size_alloc, World.size_alloc] at hcw
  have hwb : IntKind.u8.wrap (b : Int) = b := IntWalk.u8_in _ (by omega)
  have h1 : (bs [248]).size ≤ 1 := by rw [bs_size]; exact Nat.le_refl _
  have h2 : (bs [UInt8.ofNat b]).size ≤ 1 := by rw [bs_size]; exact Nat.le_refl _
  have he := Lib.hid (show bs [248] ++ bs [UInt8.ofNat b] = bs [248, UInt8.ofNat b] from bs_append _ _)
  have hw : Hid (Below w.heap.size w (((w.alloc (.cells #[.int .i64 8, .int .i64 x, .int .i64 b, .string s, v] 60)).alloc (.cells #[.int .u8 248] 5)).alloc (.cells #[.int .u8 b] 5))) := (((Below.refl _ _).alloc (Nat.le_refl _) _).alloc (by simp) _).alloc (by simp; omega) _
  clear hl1 hl2 hbn hb
  generalize bs [248] = K at *
  generalize bs [UInt8.ofNat b] = P at *
  go_enter Tryz.func25, Tryz.ntmps25
  go_wp2_with fail
  go_ret
  exact ⟨by rw [← he.out]; rfl, hw.out⟩
end Go.Proofs.YtobhpclemmhpoaaGreatDoor

namespace Go.Proofs.YtobhpclemmhpoaaGreatDoor
open Go.RowKit

theorem head_any (sh : Shp) (hk1 : 1 ≤ sh.kind) (hk2 : sh.kind ≤ 10) (ha : sh.a ≤ 4294967295) (hb : sh.b ≤ 4294967295) (h8 : sh.kind = 8 → sh.b ≤ 255) (hs : sh.s.size ≤ 1000000) (hm : sh.args.length ≤ 65536) (o : Option Addr) (c : Nat) (w : World) :
    Calls Tryz.prog 25 #[nodeV sh (.slice o sh.args.length c)] w fun e w' => e = .returned (.string (bs (headL sh))) ∧ Below w.heap.size w w' := by
  obtain ⟨k, a, b, s, l⟩ := sh
  simp only at *
  obtain rfl | rfl | rfl | rfl | rfl | rfl | rfl | rfl | rfl | rfl : k = 1 ∨ k = 2 ∨ k = 3 ∨ k = 4 ∨ k = 5 ∨ k = 6 ∨ k = 7 ∨ k = 8 ∨ k = 9 ∨ k = 10 := by omega
  · exact head_data a b s hs _ w
  · exact head_2 a b ha hb s _ w
  · exact head_3 a b ha hb s hs o _ c hm w
  · exact head_4 a b ha hb s hs o _ c hm w
  · exact head_5 a b s hs o _ c hm w
  · exact head_6 a b ha hb s hs o _ c hm w
  · exact head_7 a b ha hb s hs o _ c hm w
  · exact head_8 a b (h8 rfl) s _ w
  · exact head_9 a b ha hb s hs o _ c hm w
  · exact head_10 a b ha hb s hs o _ c hm w

def encStep (acc : List (List UInt8)) (e : Ent) : List (List UInt8) := acc ++ [headL e.sh ++ (e.sh.args.map fun t => acc.getD t []).flatten]
/-- The encodings of the terms L, in their order. -/
def encs (L : List Ent) : List (List UInt8) := L.foldl encStep []
def enc (L : List Ent) (t : Nat) : List UInt8 := (encs L).getD t []

theorem encs_more : ∀ (M : List Ent) (acc : List (List UInt8)), ∃ r, M.foldl encStep acc = acc ++ r ∧ r.length = M.length
  | [], acc => ⟨[], by simp, rfl⟩
  | e :: M, acc => by
    obtain ⟨r, h1, h2⟩ := encs_more M (encStep acc e)
    refine ⟨(headL e.sh ++ (e.sh.args.map fun t => acc.getD t []).flatten) :: r, ?_, by simp [h2]⟩
    rw [List.foldl_cons, h1, encStep, List.append_assoc]
    rfl
theorem encs_length (L : List Ent) : (encs L).length = L.length := by
  obtain ⟨r, h1, h2⟩ := encs_more L []
  unfold encs
  rw [h1]
  simpa using h2
theorem enc_append (L M : List Ent) (t : Nat) (ht : t < L.length) : enc (L ++ M) t = enc L t := by
  obtain ⟨r, h1, _⟩ := encs_more M (encs L)
  have e : encs (L ++ M) = encs L ++ r := by
    unfold encs at h1 ⊢
    rw [List.foldl_append, h1]
  unfold enc
  rw [e, List.getD_eq_getElem?_getD, List.getD_eq_getElem?_getD, List.getElem?_append_left (by rw [encs_length]; exact ht)]
theorem enc_snoc (L : List Ent) (e : Ent) (_h : ∀ t ∈ e.sh.args, t < L.length) : enc (L ++ [e]) L.length = headL e.sh ++ (e.sh.args.map (enc L)).flatten := by
  have e1 : encs (L ++ [e]) = encStep (encs L) e := by unfold encs; rw [List.foldl_append]; rfl
  unfold enc
  rw [e1, encStep, List.getD_eq_getElem?_getD, List.getElem?_append_right (by rw [encs_length]; exact Nat.le_refl _), encs_length, Nat.sub_self]
  rfl
/-- What a term's encoding is. -/
theorem enc_eq {L : List Ent} {n : Nat} {e : Ent} (he : L[n]? = some e) (ha : ∀ t ∈ e.sh.args, t < n) : enc L n = headL e.sh ++ (e.sh.args.map (enc L)).flatten := by
  have hn := (List.getElem?_eq_some_iff.1 he).1
  have hge := (List.getElem?_eq_some_iff.1 he).2
  have hlt : (L.take n).length = n := by rw [List.length_take]; omega
  have hsp : L = L.take n ++ [e] ++ L.drop (n + 1) := by
    rw [List.append_assoc]
    conv => lhs; rw [← List.take_append_drop n L]
    rw [List.drop_eq_getElem_cons hn, hge]
    rfl
  have h1 : enc L n = enc (L.take n ++ [e]) n := by
    conv => lhs; rw [hsp]
    exact enc_append _ _ _ (by simp; omega)
  have h2 : ∀ t, t < n → enc L t = enc (L.take n) t := fun t ht => by
    conv => lhs; rw [hsp, List.append_assoc]
    exact enc_append _ _ _ (by omega)
  rw [h1]
  have h3 := enc_snoc (L.take n) e (by rw [hlt]; exact ha)
  rw [hlt] at h3
  rw [h3]
  congr 2
  exact List.map_congr_left fun t ht => (h2 t (ha t ht)).symm
end Go.Proofs.YtobhpclemmhpoaaGreatDoor

namespace Go.Proofs.YtobhpclemmhpoaaGreatDoor
open Go.RowKit

theorem append_bytes {w : World} {base n : Nat} {v : Value} {xs : List Value} (hown : w.ownsRow base 5 1 v n xs) (l : List UInt8) (hn : n + l.length ≤ 1000000000) (hb : base ≤ w.heap.size) :
    ∃ v' w', (Builtin.append_ #[71, 9] 71 #[v, .string (bs l)]).run Tryz.prog w = .ok v' w' ∧ w'.ownsRow base 5 1 v' (n + l.length) (xs ++ byteCells l) ∧ w.grownBy w' v.ownBlock := by
  obtain ⟨i0, hi, hz0, hz1, hz2⟩ := info_parts info_u8
  obtain ⟨v', w', h1, h2, h3, _⟩ := Lib.run_append_own_string (P := Tryz.prog) w base 71 9 71 5 i0 Tryz.underlying71 Tryz.underlying9 hi hz0 hz1 hz2 v n xs hown (bs l) (by rw [bs_size]; unfold maxLen; omega) (by rw [bs_size]; omega) hb
  rw [bs_size] at h2
  exact ⟨v', w', h1, h2, h3⟩

theorem step_append_bytes {ops : Array Oper} {o : Oper} {a : Act} {w : World} {K : Act → World → Prop} {Q : Exit → Act → World → Prop} {E : Prop} (hgd : o.guard = none) (s x : Operand)
    (hop : o.op = .call { callee := .builtin .append, args := #[s, x], argTypes := #[71, 9] }) (hty : o.type = 71) {base n : Nat} {v : Value} {xs : List Value} (hs : a.eval s = v)
    (hown : w.ownsRow base 5 1 v n xs) (l : List UInt8) (hx : a.eval x = .string (bs l)) (hl0 : 0 < l.length) (hn : n + l.length ≤ 1000000000) (hb : base ≤ w.heap.size)
    (h : ∀ g cap w', w'.ownsRow base 5 1 (.slice (some ⟨g, 0, none⟩) (n + l.length) cap) (n + l.length) (xs ++ byteCells l) → w.grownBy w' v.ownBlock → K (a.put o.dst (.slice (some ⟨g, 0, none⟩) (n + l.length) cap)) w') :
    if Region.wanted o (yielded ops a.tmps) = true then Oper.wp Tryz.prog o a w K Q else E := by
  have hw : Region.wanted o (yielded ops a.tmps) = true := by simp [Region.wanted, hgd]
  rw [if_pos hw]
  obtain ⟨v', w', hrun, h2, h3⟩ := append_bytes hown l hn hb
  unfold Oper.wp execOp
  simp only [hop, hty, resolve, invoke, builtin, Sem.run_bind, Sem.run_pure, Result.andThen_ok, List.map_toArray, List.map_cons, List.map_nil, hs, hx, hrun]
  rcases h2.2 with ⟨_, h0⟩ | ⟨g, cap, _, rfl, _⟩
  · omega
  · exact h g cap w' h2 h3

/-- A row of bytes lies in no block of another type. -/
theorem row_ne {w : World} {base n k : Nat} {t e : TypeId} {cs : Array Value} {v : Value} {xs : List Value} (h : w.ownsRow base e 1 v n xs) (hk : Holds w k t cs) (ht : t ≠ e) : some k ≠ v.ownBlock := by
  rcases h.2 with ⟨rfl, _⟩ | ⟨g, cap, cur, rfl, _, hg, _⟩
  · simp [Value.ownBlock]
  · intro he
    have : k = g := by simpa [Value.ownBlock] using he
    subst this
    unfold Holds at hk
    rw [hk] at hg
    injection hg with hg
    injection hg with _ h2
    exact ht h2

end Go.Proofs.YtobhpclemmhpoaaGreatDoor
