/- Layer 18: Right, Pick. -/
import Derived.Test.YtihkhcocfhbekaaDoorGx5
import Derived.Test.YtihkhcocfhbekaaDoorFltA
import Derived.LoopTactic
import Derived.Laws.Tables
import Derived.Laws.CopyRow
namespace Go.Proofs.YtihkhcocfhbekaaDoor
open Go.RowKit

def rightB (a b c : Nat) : Bool := decide (1024 ≤ a) && decide (a ≤ b) && decide (b ≤ c) && decide (c ≤ 8192)
set_option maxRecDepth 100000 in
theorem gxRight_any (a b c : Nat) (w : World) : Calls Tryd.prog 27 #[.int .u32 (a : Int), .int .u32 (b : Int), .int .u32 (c : Int)] w fun e w' => e = .returned (.bool (rightB a b c)) ∧ w' = w := by
  have HI : Hid (rightB a b c = (decide ((1024 : Int) ≤ (a : Int)) && decide ((a : Int) ≤ (b : Int)) && decide ((b : Int) ≤ (c : Int)) && decide ((c : Int) ≤ (8192 : Int)))) := by
    have e1 : decide (1024 ≤ a) = decide ((1024 : Int) ≤ (a : Int)) := decide_eq_decide.2 (by omega)
    have e2 : decide (a ≤ b) = decide ((a : Int) ≤ (b : Int)) := decide_eq_decide.2 (by omega)
    have e3 : decide (b ≤ c) = decide ((b : Int) ≤ (c : Int)) := decide_eq_decide.2 (by omega)
    have e4 : decide (c ≤ 8192) = decide ((c : Int) ≤ (8192 : Int)) := decide_eq_decide.2 (by omega)
    show rightB a b c = _
    unfold rightB
    rw [e1, e2, e3, e4]
  rw [HI.out]
  clear HI
  obtain ⟨r1, q1⟩ : ∃ r, decide ((1024 : Int) ≤ (a : Int)) = r := ⟨_, rfl⟩
  obtain ⟨r2, q2⟩ : ∃ r, decide ((a : Int) ≤ (b : Int)) = r := ⟨_, rfl⟩
  obtain ⟨r3, q3⟩ : ∃ r, decide ((b : Int) ≤ (c : Int)) = r := ⟨_, rfl⟩
  obtain ⟨r4, q4⟩ : ∃ r, decide ((c : Int) ≤ (8192 : Int)) = r := ⟨_, rfl⟩
  rw [q1, q2, q3, q4]
  generalize (a : Int) = x at *
  generalize (b : Int) = y at *
  generalize (c : Int) = z at *
  cases r1 with
  | false => (go_enter Tryd.func27, Tryd.ntmps27; go_wp2_with fail; go_ret; exact ⟨rfl, rfl⟩)
  | true =>
  cases r2 with
  | false => (go_enter Tryd.func27, Tryd.ntmps27; go_wp2_with fail; go_ret; exact ⟨rfl, rfl⟩)
  | true =>
  cases r3 with
  | false => (go_enter Tryd.func27, Tryd.ntmps27; go_wp2_with fail; go_ret; exact ⟨rfl, rfl⟩)
  | true =>
  cases r4 with
  | false => (go_enter Tryd.func27, Tryd.ntmps27; go_wp2_with fail; go_ret; exact ⟨rfl, rfl⟩)
  | true => (go_enter Tryd.func27, Tryd.ntmps27; go_wp2_with fail; go_ret; exact ⟨rfl, rfl⟩)

set_option maxRecDepth 100000 in
theorem gxWithin_any (lo hi : Int) (w : World) : Calls Tryd.prog 52 #[.int .u32 lo, .int .u32 hi] w fun e w' => e = .returned (.func (.func 67) #[] #[.pointer (some ⟨w.heap.size, 0, none⟩), .pointer (some ⟨w.heap.size + 1, 0, none⟩)]) ∧ w' = (w.alloc (.cells #[.int .u32 lo] 49)).alloc (.cells #[.int .u32 hi] 49) := by
  go_enter Tryd.func52, Tryd.ntmps52
  go_wp2_with fail
  go_ret
  exact ⟨rfl, rfl⟩

def szK (k : Nat) : Nat := 1024 * (k + 1)
theorem bits_table : ∀ k, k < 4 → bitsL (modL (szK k) (szK k / 8)) = szK k := by decide +kernel
def idxZ (q : Nat → Bool) : Int := if q 0 then 0 else if q 1 then 1 else if q 2 then 2 else if q 3 then 3 else -1
theorem idxZ_is {q : Nat → Bool} {z : Int} (h : (∃ k : Nat, k < 4 ∧ z = k ∧ q k = true ∧ ∀ j, j < k → q j = false) ∨ z = -1 ∧ ∀ j, j < 4 → q j = false) : z = idxZ q := by
  unfold idxZ
  rcases h with ⟨k, hk, rfl, hq, hj⟩ | ⟨rfl, hj⟩
  · match k, hk with
    | 0, _ => simp [hq]
    | 1, _ => simp [hq, hj 0 (by omega)]
    | 2, _ => simp [hq, hj 0 (by omega), hj 1 (by omega)]
    | 3, _ => simp [hq, hj 0 (by omega), hj 1 (by omega), hj 2 (by omega)]
    | k + 4, h => exact absurd h (by omega)
  · simp [hj 0 (by omega), hj 1 (by omega), hj 2 (by omega), hj 3 (by omega)]
theorem idxZ_form (q : Nat → Bool) : (∃ k : Nat, k < 4 ∧ idxZ q = k) ∨ idxZ q = -1 := by
  unfold idxZ
  split
  · exact .inl ⟨0, by omega, rfl⟩
  · split
    · exact .inl ⟨1, by omega, rfl⟩
    · split
      · exact .inl ⟨2, by omega, rfl⟩
      · split
        · exact .inl ⟨3, by omega, rfl⟩
        · exact .inr rfl
def upZ (like most : Nat) : Int := idxZ fun k => inB like most (szK k)
def downZ (least most : Nat) : Int := idxZ fun k => inB least most (szK (3 - k))
/-- The place in the table of the group that is picked. -/
def pickP (least like most : Nat) : Option Nat :=
  if rightB least like most then
    (if upZ like most ≥ 0 then some (upZ like most).toNat else if downZ least most ≥ 0 then some (3 - (downZ least most).toNat) else none)
  else none
theorem cell_same {w : World} {g i : Nat} {t : TypeId} {cs : Array Value} {v : Value} (h : Holds w g t cs) (hv : cs[i]? = some v) : w.setCell ⟨g, i, none⟩ v = w := by
  rw [setCell_eq_setRow w g i cs t (0, 0) v h]
  have e : cs.setIfInBounds i v = cs := by
    apply Array.ext
    · simp
    · intro j h1 h2
      rw [Array.getElem_setIfInBounds (by simpa using h1)]
      split
      · rename_i hij
        subst hij
        rw [Array.getElem?_eq_getElem h2] at hv
        exact (Option.some.inj hv).symm
      · rfl
  rw [e]
  exact setRow_self w g cs t (0, 0) h
theorem gxResults {P : Program} {fn : Func} {p u : Tmp} {ty : TypeId} (h : fn.results = #[.cell p ty, .tmp u]) (tmps : Array Value) (w : World) (g : Nat) (t : TypeId) (cs : Array Value) (fr : Nat × Nat) (d : TypeDesc)
    (hp : tmps.getD p undef = .pointer (some ⟨g, 0, none⟩)) (hg : w.heap[g]? = some (.cells cs t fr))
    (hu : P.underlying ty = some d) (hd : (match d with | .struct _ | .array _ _ => true | _ => false) = true) (hi : (P.info? ty).map (·.size) = some cs.size) :
    (results fn tmps).run P w = .ok (.tuple #[.agg cs, tmps.getD u undef]) w := by
  have hp' : tmps[p]?.getD undef = .pointer (some ⟨g, 0, none⟩) := by simpa using hp
  simp [results, h, hp', asAddr, run_loadVar_row w g t ty cs fr d hg hu hd hi]

def gexS : ByteArray := ⟨#[103, 101, 120]⟩

theorem idx_at {w : World} {B g c : Nat} {f : Nat → ByteArray} {G : ByteArray} {q : Nat → Bool} {lo hi : Nat} (h : w.ownsRow B 51 2 (.slice (some ⟨g, 0, none⟩) 4 c) 4 (grV f G)) (hlo : lo < 4294967296) (hhi : hi < 4294967296)
    (hq : ∀ k, k < 4 → ∃ p, f k = bs p ∧ p.length ≤ 1000000 ∧ q k = inB lo hi (bitsL p)) :
    Calls Tryd.prog 51 #[.slice (some ⟨g, 0, none⟩) 4 c, .func (.func 67) #[] #[.pointer (some ⟨w.heap.size, 0, none⟩), .pointer (some ⟨w.heap.size + 1, 0, none⟩)]] ((w.alloc (.cells #[.int .u32 (lo : Int)] 49)).alloc (.cells #[.int .u32 (hi : Int)] 49)) fun e w' => e = .returned (.int .i64 (idxZ q)) ∧ Below w.heap.size w w' := by
  have hb : Below w.heap.size w ((w.alloc (.cells #[.int .u32 (lo : Int)] 49)).alloc (.cells #[.int .u32 (hi : Int)] 49)) := ((Below.refl _ _).alloc (Nat.le_refl _) _).alloc (by rw [World.size_alloc]; omega) _
  have h2 := Holds.new (w.alloc (.cells #[.int .u32 (lo : Int)] 49)) 49 #[.int .u32 (hi : Int)]
  have h1 := (Holds.new w 49 #[.int .u32 (lo : Int)]).moves ((Moves.refl nobody (w.alloc (.cells #[.int .u32 (lo : Int)] 49))).alloc (.cells #[.int .u32 (hi : Int)] 49)) (fun h => h)
  rw [World.size_alloc] at h2
  have hr := (h.alloc (.cells #[.int .u32 (lo : Int)] 49)).alloc (.cells #[.int .u32 (hi : Int)] 49)
  generalize (w.alloc (.cells #[.int .u32 (lo : Int)] 49)).alloc (.cells #[.int .u32 (hi : Int)] 49) = W at *
  refine (idxGroup_any (q := q) hr fun V hV k hk => ?_).mono fun e w' ⟨z, he, hz, hb'⟩ => ⟨by rw [he, idxZ_is hz], hb.trans (hb'.mono hb.size)⟩
  obtain ⟨p, hp, hl, hqk⟩ := hq k hk
  rw [hp, hqk]
  exact within1_any (((h1.moves (Moves.ofBelow (S := nobody) hV) (fun h => h)).cell 0).trans rfl) (((h2.moves (Moves.ofBelow (S := nobody) hV) (fun h => h)).cell 0).trans rfl) hlo hhi p G hl
theorem row_cells {w w' : World} {B g c : Nat} {f : Nat → ByteArray} {G : ByteArray} (h : w.ownsRow B 51 2 (.slice (some ⟨g, 0, none⟩) 4 c) 4 (grV f G)) (hb : Below w.heap.size w w') (k : Nat) (hk : k < 4) : w'.cell? ⟨g, k * 2, none⟩ = some (.string (f k)) ∧ w'.cell? ⟨g, k * 2 + 1, none⟩ = some (.string G) := by
  have hgl := (h.lt g rfl).2
  obtain ⟨e1, e2⟩ := grV_at f G k hk
  rw [Nat.mul_comm] at e1 e2
  exact ⟨(hb.cell (p := ⟨g, k * 2, none⟩) hgl).trans ((h.cellAt (k * 2) (by omega)).trans e1), (hb.cell (p := ⟨g, k * 2 + 1, none⟩) hgl).trans ((h.cellAt (k * 2 + 1) (by omega)).trans e2)⟩
theorem tab_up (lo hi : Nat) : ∀ k, k < 4 → ∃ p, gP k = bs p ∧ p.length ≤ 1000000 ∧ (fun k => inB lo hi (szK k)) k = inB lo hi (bitsL p) := fun k hk =>
  ⟨modL (szK k) (szK k / 8), rfl, by rw [modL_len]; unfold szK; omega, by rw [bits_table k hk]⟩
theorem tab_down (lo hi : Nat) : ∀ k, k < 4 → ∃ p, (fun k => gP (3 - k)) k = bs p ∧ p.length ≤ 1000000 ∧ (fun k => inB lo hi (szK (3 - k))) k = inB lo hi (bitsL p) := fun k hk =>
  ⟨modL (szK (3 - k)) (szK (3 - k) / 8), rfl, by rw [modL_len]; unfold szK; omega, by rw [bits_table (3 - k) (by omega)]⟩

set_option maxHeartbeats 2000000 in
set_option maxRecDepth 100000 in
theorem pick_any {w : World} (hS : Siz w) (a b c : Nat) (ha : a < 4294967296) (hb : b < 4294967296) (hc : c < 4294967296) :
    Calls Tryd.prog 25 #[.int .u32 (a : Int), .int .u32 (b : Int), .int .u32 (c : Int)] w fun e w' => (match pickP a b c with
      | some k => k < 4 ∧ e = .returned (.tuple #[.agg #[.string (gP k), .string ⟨#[2]⟩], .nilIface])
      | none => ∃ t u, e = .returned (.tuple #[.agg #[.string ⟨#[]⟩, .string ⟨#[]⟩], .iface t u]) ∧ ErrAt w' (.iface t u) [gexS] (some 5)) ∧ Below w.heap.size w w' := by
  obtain ⟨W0, hW0⟩ : ∃ W0, W0 = w.alloc (.cells #[.string ⟨#[]⟩, .string ⟨#[]⟩] 51) := ⟨_, rfl⟩
  have hb0 : Below w.heap.size w W0 := by rw [hW0]; exact (Below.refl _ _).alloc (Nat.le_refl _) _
  have hs0 : W0.heap.size = w.heap.size + 1 := by rw [hW0, World.size_alloc]
  have hh0 : Holds W0 w.heap.size 51 #[.string ⟨#[]⟩, .string ⟨#[]⟩] := by rw [hW0]; exact Holds.new _ _ _
  have HH : Hid (∀ W, Below W0.heap.size W0 W → Holds W w.heap.size 51 #[.string ⟨#[]⟩, .string ⟨#[]⟩]) := fun W hb => (hb.block _ (by omega)).trans hh0
  have HRi := Lib.hid (fun W => gxRight_any a b c W)
  have HOf : Hid (∀ W : World, Calls Tryd.prog 43 #[.string ⟨#[103, 101, 120]⟩, .int .i64 5] W fun r w' => ∃ t u, r = .returned (.iface t u) ∧ ErrAt w' (.iface t u) [gexS] (some 5) ∧ Below W.heap.size W w') := fun W => (fOf_any gexS 5 (by decide) W).mono (by
    rintro r w' ⟨v', rfl, he, hne, hb⟩
    cases he with
    | fault h1 h2 h3 h4 => exact ⟨_, _, rfl, .fault h1 h2 h3 h4, hb⟩)
  have HT : Hid (∀ W, Below W0.heap.size W0 W → Calls Tryd.prog 37 #[] W fun e w' => ∃ g c, e = .returned (.slice (some ⟨g, 0, none⟩) 4 c) ∧ w'.ownsRow W.heap.size 51 2 (.slice (some ⟨g, 0, none⟩) 4 c) 4 (grV gP ⟨#[2]⟩) ∧ Below W.heap.size W w') := fun W hb => table_any (hS.below (hb0.trans (hb.mono hb0.size)))
  have HWi := Lib.hid gxWithin_any
  have HU : Hid (∀ {W : World} {B g d : Nat}, W.ownsRow B 51 2 (.slice (some ⟨g, 0, none⟩) 4 d) 4 (grV gP ⟨#[2]⟩) → Calls Tryd.prog 51 #[.slice (some ⟨g, 0, none⟩) 4 d, .func (.func 67) #[] #[.pointer (some ⟨W.heap.size, 0, none⟩), .pointer (some ⟨W.heap.size + 1, 0, none⟩)]] ((W.alloc (.cells #[.int .u32 (b : Int)] 49)).alloc (.cells #[.int .u32 (c : Int)] 49)) fun e w' => e = .returned (.int .i64 (upZ b c)) ∧ Below W.heap.size W w') := fun {W B g d} h => idx_at h hb hc (tab_up b c)
  have HDn : Hid (∀ {W : World} {B g d : Nat}, W.ownsRow B 51 2 (.slice (some ⟨g, 0, none⟩) 4 d) 4 (grV (fun k => gP (3 - k)) ⟨#[2]⟩) → Calls Tryd.prog 51 #[.slice (some ⟨g, 0, none⟩) 4 d, .func (.func 67) #[] #[.pointer (some ⟨W.heap.size, 0, none⟩), .pointer (some ⟨W.heap.size + 1, 0, none⟩)]] ((W.alloc (.cells #[.int .u32 (a : Int)] 49)).alloc (.cells #[.int .u32 (c : Int)] 49)) fun e w' => e = .returned (.int .i64 (downZ a c)) ∧ Below W.heap.size W w') := fun {W B g d} h => idx_at h ha hc (tab_down a c)
  have hP : pickP a b c = if rightB a b c then (if upZ b c ≥ 0 then some (upZ b c).toNat else if downZ a c ≥ 0 then some (3 - (downZ a c).toNat) else none) else none := rfl
  have hup := idxZ_form fun k => inB b c (szK k)
  have hdn := idxZ_form fun k => inB a c (szK (3 - k))
  change (∃ k : Nat, k < 4 ∧ upZ b c = k) ∨ upZ b c = -1 at hup
  change (∃ k : Nat, k < 4 ∧ downZ a c = k) ∨ downZ a c = -1 at hdn
  have HB0 := Lib.hid hb0
  have hBr : Hid (Below W0.heap.size W0 W0) := Below.refl _ _
  have HW := Lib.hid hW0.symm
  generalize pickP a b c = P at *
  generalize upZ b c = U at *
  generalize downZ a c = D at *
  generalize rightB a b c = R at *
  clear hW0 hb0 hh0 hs0 hS ha hb hc
  cases R with
  | false =>
    rw [if_neg (by simp)] at hP
    subst hP
    clear hup hdn HU HDn HT HWi
    go_enter Tryd.func25, Tryd.ntmps25
    go_wp2_with (first
      | (go_at_call 27; rw [HW.out]; (with_reducible refine (HRi.out _).mono ?_); rintro e w1 ⟨rfl, rfl⟩; have z0 := (HH.out _ hBr.out).cell 0; have z1 := (HH.out _ hBr.out).cell 1; have s0 := (HH.out _ hBr.out).frozen 0; have s1 := (HH.out _ hBr.out).frozen 1)
      | (go_at_call 43; (with_reducible refine (HOf.out _).mono ?_); rintro e w2 ⟨t, u, rfl, he, g2⟩; have HE := Lib.hid he; have G2 := Lib.hid (hBr.out.trans (g2.mono hBr.out.size)); have z0 := (HH.out _ G2.out).cell 0; have z1 := (HH.out _ G2.out).cell 1; have s0 := (HH.out _ G2.out).frozen 0; have s1 := (HH.out _ G2.out).frozen 1; clear he g2))
    rw [cell_same (HH.out _ G2.out) rfl, cell_same (HH.out _ G2.out) rfl]
    exact bodyPost_ret (gxResults (p := 6) (u := 7) rfl _ _ w.heap.size _ _ (0, 0) _ rfl (HH.out _ G2.out) Tryd.underlying51 rfl (by kernel_rfl)) rfl ⟨⟨t, u, rfl, HE.out⟩, HB0.out.trans (G2.out.mono HB0.out.size)⟩
  | true =>
    rw [if_pos rfl] at hP
    rcases hup with ⟨k, hk, rfl⟩ | rfl
    · rw [if_pos (by omega), Int.toNat_natCast] at hP
      subst hP
      clear hdn HDn HOf
      go_enter Tryd.func25, Tryd.ntmps25
      go_wp2_with (first
        | (go_at_call 27; rw [HW.out]; (with_reducible refine (HRi.out _).mono ?_); rintro e w1 ⟨rfl, rfl⟩)
        | (go_at_call 37; (with_reducible refine (HT.out _ hBr.out).mono ?_); rintro e w1 ⟨g, d, rfl, hr, b1⟩; have HRw := Lib.hid hr; have B1 := Lib.hid (hBr.out.trans (b1.mono hBr.out.size)); clear hr b1)
        | (go_at_call 52; (with_reducible refine (HWi.out _ _ _).mono ?_); rintro e w2 ⟨rfl, rfl⟩)
        | (go_at_call 51; (with_reducible refine (HU.out HRw.out).mono ?_); rintro e w3 ⟨rfl, b3⟩; have B3 := Lib.hid (B1.out.trans (b3.mono B1.out.size)); have z0 := (HH.out _ B3.out).cell 0; have z1 := (HH.out _ B3.out).cell 1; have s0 := (HH.out _ B3.out).frozen 0; have s1 := (HH.out _ B3.out).frozen 1; have hcs := row_cells HRw.out b3 k hk; obtain ⟨c0, c1⟩ := hcs; have HGF : Hid (gP k = gP k) := rfl; clear b3))
      have hF : Holds ((w3.setCell ⟨w.heap.size, 0, none⟩ (.string (gP k))).setCell ⟨w.heap.size, 1, none⟩ (.string ⟨#[2]⟩)) w.heap.size 51 #[.string (gP k), .string ⟨#[2]⟩] := ((HH.out _ B3.out).set 0 (.string (gP k))).set 1 (.string ⟨#[2]⟩)
      exact bodyPost_ret (gxResults (p := 6) (u := 7) rfl _ _ w.heap.size _ _ (0, 0) _ rfl hF Tryd.underlying51 rfl (by kernel_rfl)) rfl ⟨⟨by omega, rfl⟩, ((HB0.out.trans (B3.out.mono HB0.out.size)).setCell (by simp) _).setCell (by simp) _⟩
    · rw [if_neg (by omega)] at hP


      rcases hdn with ⟨k, hk, rfl⟩ | rfl
      · rw [if_pos (by omega), Int.toNat_natCast] at hP
        subst hP
        clear HOf
        go_enter Tryd.func25, Tryd.ntmps25
        go_wp2_with (first
          | (go_at_call 27; rw [HW.out]; (with_reducible refine (HRi.out _).mono ?_); rintro e w1 ⟨rfl, rfl⟩)
          | (go_at_call 37; (with_reducible refine (HT.out _ hBr.out).mono ?_); rintro e w1 ⟨g, d, rfl, hr, b1⟩; have HRw := Lib.hid hr; have B1 := Lib.hid (hBr.out.trans (b1.mono hBr.out.size)); clear hr b1)
          | (go_at_call 52; (with_reducible refine (HWi.out _ _ _).mono ?_); rintro e w2 ⟨rfl, rfl⟩)
          | (go_at_call 51; (with_reducible refine (HU.out HRw.out).mono ?_); rintro e w3 ⟨rfl, b3⟩; have B3 := Lib.hid (B1.out.trans (b3.mono B1.out.size)); have HR3 := Lib.hid (owns_moves HRw.out (Moves.ofBelow (S := nobody) b3) (fun _ _ h => h)); clear b3)
          | (go_at_call 53; (with_reducible refine (revGroup_any HR3.out).mono ?_); rintro e w5 ⟨rfl, hr5, b5⟩; have HR5 := Lib.hid hr5; have B5 := Lib.hid (B3.out.trans b5); clear hr5 b5)
          | (go_at_call 51; (with_reducible refine (HDn.out HR5.out).mono ?_); rintro e w6 ⟨rfl, b6⟩; have B6 := Lib.hid (B5.out.trans (b6.mono B5.out.size)); have z0 := (HH.out _ B6.out).cell 0; have z1 := (HH.out _ B6.out).cell 1; have s0 := (HH.out _ B6.out).frozen 0; have s1 := (HH.out _ B6.out).frozen 1; have hcs := row_cells HR5.out b6 k hk; obtain ⟨c0, c1⟩ := hcs; clear b6))
        have hF : Holds ((w6.setCell ⟨w.heap.size, 0, none⟩ (.string (gP (3 - k)))).setCell ⟨w.heap.size, 1, none⟩ (.string ⟨#[2]⟩)) w.heap.size 51 #[.string (gP (3 - k)), .string ⟨#[2]⟩] := ((HH.out _ B6.out).set 0 (.string (gP (3 - k)))).set 1 (.string ⟨#[2]⟩)
        exact bodyPost_ret (gxResults (p := 6) (u := 7) rfl _ _ w.heap.size _ _ (0, 0) _ rfl hF Tryd.underlying51 rfl (by kernel_rfl)) rfl ⟨⟨by omega, rfl⟩, ((HB0.out.trans (B6.out.mono HB0.out.size)).setCell (by simp) _).setCell (by simp) _⟩
      · rw [if_neg (by omega)] at hP
        subst hP
        go_enter Tryd.func25, Tryd.ntmps25
        go_wp2_with (first
          | (go_at_call 27; rw [HW.out]; (with_reducible refine (HRi.out _).mono ?_); rintro e w1 ⟨rfl, rfl⟩)
          | (go_at_call 37; (with_reducible refine (HT.out _ hBr.out).mono ?_); rintro e w1 ⟨g, d, rfl, hr, b1⟩; have HRw := Lib.hid hr; have B1 := Lib.hid (hBr.out.trans (b1.mono hBr.out.size)); clear hr b1)
          | (go_at_call 52; (with_reducible refine (HWi.out _ _ _).mono ?_); rintro e w2 ⟨rfl, rfl⟩)
          | (go_at_call 51; (with_reducible refine (HU.out HRw.out).mono ?_); rintro e w3 ⟨rfl, b3⟩; have B3 := Lib.hid (B1.out.trans (b3.mono B1.out.size)); have HR3 := Lib.hid (owns_moves HRw.out (Moves.ofBelow (S := nobody) b3) (fun _ _ h => h)); clear b3)
          | (go_at_call 53; (with_reducible refine (revGroup_any HR3.out).mono ?_); rintro e w5 ⟨rfl, hr5, b5⟩; have HR5 := Lib.hid hr5; have B5 := Lib.hid (B3.out.trans b5); clear hr5 b5)
          | (go_at_call 51; (with_reducible refine (HDn.out HR5.out).mono ?_); rintro e w6 ⟨rfl, b6⟩; have B6 := Lib.hid (B5.out.trans (b6.mono B5.out.size)); clear b6)
          | (go_at_call 43; (with_reducible refine (HOf.out _).mono ?_); rintro e w7 ⟨t, u, rfl, he, g7⟩; have HE := Lib.hid he; have G7 := Lib.hid (B6.out.trans (g7.mono B6.out.size)); have z0 := (HH.out _ G7.out).cell 0; have z1 := (HH.out _ G7.out).cell 1; have s0 := (HH.out _ G7.out).frozen 0; have s1 := (HH.out _ G7.out).frozen 1; clear he g7))
        rw [cell_same (HH.out _ G7.out) rfl, cell_same (HH.out _ G7.out) rfl]
        exact bodyPost_ret (gxResults (p := 6) (u := 7) rfl _ _ w.heap.size _ _ (0, 0) _ rfl (HH.out _ G7.out) Tryd.underlying51 rfl (by kernel_rfl)) rfl ⟨⟨t, u, rfl, HE.out⟩, HB0.out.trans (G7.out.mono HB0.out.size)⟩
end Go.Proofs.YtihkhcocfhbekaaDoor
