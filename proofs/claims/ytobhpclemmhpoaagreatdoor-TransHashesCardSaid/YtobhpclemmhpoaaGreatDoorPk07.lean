/- Part 7 of what the statement wants. -/
import Derived.BigRegion
import Derived.Laws.NewBlocks
import Derived.Laws.Slices
import Derived.Deep.RegionHeld3
import Derived.Laws.ResultCell
import Derived.Test.YtobhpclemmhpoaaGreatDoorPk04
import Derived.Test.YtobhpclemmhpoaaGreatDoorPk05
import Derived.Test.YtobhpclemmhpoaaGreatDoorPk06
namespace Go.Proofs.YtobhpclemmhpoaaGreatDoor
open Go.RowKit

theorem ids_own {w : World} {B g n cap : Nat} {e : TypeId} {d : List Nat} (h : w.ownsRow B e 1 (.slice (some ⟨g, 0, none⟩) n cap) n (ints d)) (hn : n = d.length) : IdsAt w (.slice (some ⟨g, 0, none⟩) n cap) (d.map Int.ofNat) := by
  refine ⟨_, cap, by rw [hn, List.length_map], fun _ => ⟨g, 0, rfl, (h.lt g rfl).2, fun k x hx => ?_⟩⟩
  rw [List.getElem?_map] at hx
  cases hd : d[k]? with
  | none => simp [hd] at hx
  | some t =>
    simp [hd] at hx
    subst hx
    rw [Nat.zero_add]
    exact (owns_cell h hd).1

/-- What a call of Exp comes to. -/
def ExpTo (L : List Ent) (share x : Int) (m : Int × List Ent) : Prop :=
  if kindAt L share = 5 ∧ kindAt L x = 2 then
    ∃ e, at_ L share = some e ∧ if e.sh.args.length + 1 ≤ 8 then ∃ d, d.Perm (e.sh.args ++ [x.toNat]) ∧ Sorted L d ∧ m = built L ⟨5, 0, 0, e.sh.s⟩ 9 (d.map Int.ofNat) else m = (-1, L)
  else m = (-1, L)

theorem kindAt_some {L : List Ent} {i : Int} (h : kindAt L i ≠ 0) : ∃ n : Nat, i = n ∧ ∃ h : n < L.length, kindAt L i = (L[n].sh.kind : Int) := by
  unfold kindAt at_ at h ⊢
  by_cases h0 : 0 ≤ i
  · rw [if_pos h0] at h ⊢
    cases hx : L[i.toNat]? with
    | none => simp [hx] at h
    | some e =>
      obtain ⟨hl, he⟩ := List.getElem?_eq_some_iff.1 hx
      exact ⟨i.toNat, by omega, hl, by simp [he]⟩
  · rw [if_neg h0] at h
    simp at h

set_option maxHeartbeats 2000000 in
set_option maxRecDepth 100000 in
theorem Exp_any {B A : Nat} {L : List Ent} {F : Nat → Prop} {w : World} (ha : ArenaAt B A L F w) (hlen : L.length < 1073741824) (share x : Int) :
    Calls Tryz.prog 45 #[.pointer (some ⟨A, 0, none⟩), .int .i64 share, .int .i64 x] w fun r w' => ∃ m, ExpTo L share x m ∧ Makes B A F w m r w' := by
  have hk1 := Kind_any ha share
  have hk2 := Kind_any ha x
  by_cases h5 : kindAt L share = 5
  · by_cases h2 : kindAt L x = 2
    · obtain ⟨n, rfl, hn, hkn⟩ := kindAt_some (L := L) (i := share) (by omega)
      obtain ⟨xn, rfl, hxn, hkx⟩ := kindAt_some (L := L) (i := x) (by omega)
      obtain ⟨ao, cap, mb, c0, _, hlen', hcells⟩ := ha.read
      obtain ⟨g, rfl, hcx⟩ := hcells n L[n] (List.getElem?_eq_getElem hn)
      have hwf := ha.wf
      have hok := hwf.ok n L[n] (List.getElem?_eq_getElem hn)
      have hat : at_ L (n : Int) = some L[n] := by rw [at_nat]; exact List.getElem?_eq_getElem hn
      obtain ⟨E, hE⟩ : ∃ E, E = L[n] := ⟨_, rfl⟩
      rw [← hE] at hcx hok hat
      have x0 : w.cell? ⟨g, n * 6, none⟩ = _ := hcx 0 _ rfl
      have x1 : w.cell? ⟨g, n * 6 + 1, none⟩ = _ := hcx 1 _ rfl
      have x2 : w.cell? ⟨g, n * 6 + 2, none⟩ = _ := hcx 2 _ rfl
      have x3 : w.cell? ⟨g, n * 6 + 3, none⟩ = _ := hcx 3 _ rfl
      have x4 : w.cell? ⟨g, n * 6 + 4, none⟩ = _ := hcx 4 _ rfl
      have x5 : w.cell? ⟨g, n * 6 + 5, none⟩ = _ := hcx 5 _ rfl
      have HTO := fun m hm => (show ExpTo L (n : Int) (xn : Int) m from by unfold ExpTo; rw [if_pos ⟨h5, h2⟩]; exact ⟨E, hat, hm⟩)
      rw [h5] at hk1
      rw [h2] at hk2
      obtain ⟨⟨kE, aE, bE, sE, gE⟩, zE⟩ := E
      simp only at x0 x1 x2 x3 x4 x5
      have hargs := hok.args
      have hmany := hok.many
      have hsE := hok.s
      simp only at hargs hmany hsE
      have hup := unpack_any gE
      have HA := Lib.hid hat
      clear hcells hcx h5 h2 hkn hkx hE hok hat
      go_enter Tryz.func45, Tryz.ntmps45
      go_wp2_with (first
        | (go_at_call 63; with_reducible refine hk1.mono ?_; rintro e w' ⟨rfl, rfl⟩)
        | (go_at_call 63; with_reducible refine hk2.mono ?_; rintro e w' ⟨rfl, rfl⟩))
      have hm0 : Moves nobody w (w.alloc (.cells #[.int .i64 kE, .int .i64 aE, .int .i64 bE, .string sE, .string (packB gE), .int .i64 zE] 90)) := (Moves.refl _ _).alloc _
      have hX0 := Holds.new w 90 #[.int .i64 kE, .int .i64 aE, .int .i64 bE, .string sE, .string (packB gE), .int .i64 zE]
      clear x0 x1 x2 x3 x4 x5 c0
      generalize w.alloc (.cells #[.int .i64 kE, .int .i64 aE, .int .i64 bE, .string sE, .string (packB gE), .int .i64 zE] 90) = W0 at *
      generalize hXX : w.heap.size = X at *
      have HX := Lib.hid hXX
      clear hXX
      refine (hup _ hmany fun t ht => by have := hargs t ht; omega).mono ?_
      rintro r w1 ⟨rfl, hown1, hb1⟩
      have hb1' := hb1
      have hX1 : Holds w1 X 90 #[.int .i64 kE, .int .i64 aE, .int .i64 bE, .string sE, .string (packB gE), .int .i64 zE] := (hb1.block X hX0.lt).trans hX0
      have hZ : X < W0.heap.size := hX0.lt
      have hZ1 : W0.heap.size ≤ w1.heap.size := hb1.size
      clear hup
      generalize hZZ : W0.heap.size = Z at *
      have HZ := Lib.hid hZZ
      clear hZZ
      obtain ⟨i0, hi, hz0, hz1, hz2⟩ := info_parts info_id
      have hmB : B ≤ Z := by have := (ha.lt A ha.self).2; have := (ha.lt A ha.self).1; have := HX.out; omega
      go_wp2_with (at_builtin; refine wpList_append_own _ rfl (.tmp 29) (.tmp 31) 44 rfl Z 36 i0 _ 1 8 Tryz.underlying44 hi hz0 hz1 hz2 rfl (by decide) _ _ _ rfl (hown1.alloc _) ⟨w1.heap.size, 0, none⟩ 1 1 [.int .i64 (xn : Nat)] rfl rfl ?c1 ?c2 ?c3 ?c4 ?c5 ?_)
      case c1 =>
        intro j u hj
        rw [Addr.add_lit, Nat.zero_add, (Holds.new w1 36 #[.int .i64 (xn : Nat)]).cell]
        simpa using hj
      case c2 => intro u hu; simp at hu; subst hu; rfl
      case c3 => unfold maxLen; omega
      case c4 => omega
      case c5 => simp; omega
      intro v' w2 hown2 hg2 _
      obtain ⟨g2, cap2, rfl⟩ : ∃ g2 cap2, v' = .slice (some ⟨g2, 0, none⟩) (gE.length + 1) cap2 := by
        rcases hown2.2 with ⟨_, h⟩ | ⟨g2, cap2, _, h, _⟩
        · omega
        · exact ⟨g2, cap2, h⟩
      have hown3 : w2.ownsRow Z 36 1 (.slice (some ⟨g2, 0, none⟩) (gE.length + 1) cap2) (gE.length + 1) (ints (gE ++ [xn])) := owns_cast hown2 (by simp [ints])
      have hm1 : Moves nobody w w1 := hm0.trans (T := nobody) (Moves.ofBelow (by rw [HZ.out]; exact hb1')) fun _ h => h.elim
      have hm2 : Moves nobody w w2 := (hm1.alloc _).grown hg2 fun k hk => .inr (by
        have hk : Z = k := by simpa [Value.ownBlock] using hk
        rw [HX.out]
        omega)
      have hg2Z : Z ≤ g2 := (hown3.lt g2 rfl).1
      have hX2 : Holds w2 X 90 #[.int .i64 kE, .int .i64 aE, .int .i64 bE, .string sE, .string (packB gE), .int .i64 zE] :=
        hX1.moves (S := fun k => k = Z) (((Moves.refl _ w1).alloc _).grown hg2 fun k hk => .inl (by simpa [Value.ownBlock] using hk.symm)) (by omega)
      have ha2 : ArenaAt B A L F w2 := ha.moves hm2 fun _ _ h => h
      clear hown1 hown2 hg2 hb1 hb1' hX1 hX0 hm0 hm1 hi hz0 hz1 hz2
      by_cases h8 : gE.length + 1 ≤ 8
      · have hll : (gE ++ [xn]).length = gE.length + 1 := by simp
        have hal : ∀ t ∈ gE ++ [xn], t < L.length := by
          intro t ht
          rcases List.mem_append.1 ht with ht | ht
          · have := hargs t ht; omega
          · simp at ht; omega
        have hFg : ¬ F g2 := fun h => by have := (ha.lt g2 h).2; rw [HX.out] at this; omega
        have hs := SortFunc_any (G := g2) (cap := cap2) ha2 hFg hal (by omega) (by rw [hll]; exact owns_lower hown3 hmB)
        rw [hll] at hs
        have HLL := Lib.hid hll
        have h8' : decide ((8 : Int) < (gE.length : Int) + 1) = false := by simp; omega
        clear hll hown3
        simp only [cmpV] at hs
        go_wp2_with (
          go_at_call 72
          refine hs.mono ?_
          rintro r w3 ⟨rfl, d, hperm, hsd, hown4, hm3⟩
          have hX3 := hX2.moves hm3 (by omega)
          have x3 : w3.cell? ⟨X, 3, none⟩ = some (.string sE) := hX3.cell 3)
        have hdl : d.length = gE.length + 1 := by rw [hperm.length_eq, HLL.out]
        have ha3 : ArenaAt B A L F w3 := ha2.moves hm3 fun k hk h => hFg (h ▸ hk)
        have hids := ids_own hown4 hdl.symm
        have hm4 : Moves nobody w w3 := hm2.trans hm3 fun k hk => .inr (by rw [HX.out]; omega)
        have hb : Calls Tryz.prog 38 #[.pointer (some ⟨A, 0, none⟩), .agg #[.int .i64 5, .int .i64 0, .int .i64 0, .string sE, .string ⟨#[]⟩], .int .i64 9, .slice (some ⟨g2, 0, none⟩) (gE.length + 1) cap2] w3 _ :=
          build_any ha3 (h := ⟨5, 0, 0, sE⟩) (hdOk (by omega) (by omega) (by omega) (by omega)) (own := 9) (by omega) hids (by rw [List.length_map]; omega) hlen
        have hmm := Lib.hid (HTO (built L ⟨5, 0, 0, sE⟩ 9 (d.map Int.ofNat)) (by rw [if_pos h8]; exact ⟨d, by simpa using hperm, hsd, rfl⟩))
        clear HTO hs hperm hsd hown4 hX3 x3 hX2 hdl
        go_wp2_with (go_at_call 38; refine hb.mono ?_; rintro e w' ⟨rfl, h2⟩)
        go_ret
        exact ⟨_, hmm.out, rfl, Left.after hm4 h2⟩
      · have hmm := Lib.hid (HTO (-1, L) (by rw [if_neg h8]))
        have h8' : decide ((8 : Int) < (gE.length : Int) + 1) = true := by simp; omega
        clear HTO
        go_wp2_with fail
        go_ret
        exact ⟨_, hmm.out, rfl, F, ha2, hm2.mono fun _ h _ => h.elim, fun _ h => .inl h⟩
    · have hm : Hid (ExpTo L share x (-1, L)) := by unfold Hid ExpTo; rw [if_neg fun h => h2 h.2]
      have hd2 : (!(kindAt L x == 2)) = true := by simpa using h2
      rw [h5] at hk1
      generalize kindAt L x = K2 at *
      clear h5
      go_enter Tryz.func45, Tryz.ntmps45
      go_wp2_with (first
        | (go_at_call 63; with_reducible refine hk1.mono ?_; rintro e w' ⟨rfl, rfl⟩)
        | (go_at_call 63; with_reducible refine hk2.mono ?_; rintro e w' ⟨rfl, rfl⟩))
      go_ret
      exact ⟨_, hm.out, makes_none ha (Below.refl _ _) rfl rfl⟩
  · have hm : Hid (ExpTo L share x (-1, L)) := by unfold Hid ExpTo; rw [if_neg fun h => h5 h.1]
    have hd2 : (!(kindAt L share == 5)) = true := by simpa using h5
    generalize kindAt L share = K2 at *
    go_enter Tryz.func45, Tryz.ntmps45
    go_wp2_with (go_at_call 63; with_reducible refine hk1.mono ?_; rintro e w' ⟨rfl, rfl⟩)
    go_ret
    exact ⟨_, hm.out, makes_none ha (Below.refl _ _) rfl rfl⟩
end Go.Proofs.YtobhpclemmhpoaaGreatDoor

namespace Go.Proofs.YtobhpclemmhpoaaGreatDoor
open Go.RowKit

def nodeV (sh : Shp) (v : Value) : Value := .agg #[.int .i64 sh.kind, .int .i64 sh.a, .int .i64 sh.b, .string sh.s, v]
def noNode : Value := .agg #[.int .i64 0, .int .i64 0, .int .i64 0, .string ⟨#[]⟩, .slice none 0 0]

theorem run_cell_tmp {P : Program} {fn : Func} {p u : Tmp} {ty : TypeId} (h : fn.results = #[.cell p ty, .tmp u]) (tmps : Array Value) (w : World) (g : Nat) (cs : Array Value) (v : Value) (d : TypeDesc)
    (hp : tmps.getD p undef = .pointer (some ⟨g, 0, none⟩)) (hv : tmps.getD u undef = v) (hg : Holds w g ty cs)
    (hu : P.underlying ty = some d) (hd : (match d with | .struct _ | .array _ _ => true | _ => false) = true) (hi : (P.info? ty).map (·.size) = some cs.size) :
    (results fn tmps).run P w = .ok (.tuple #[.agg cs, v]) w := by
  rw [results_cell_tmp h, hp, hv]
  simp [asAddr, run_loadVar_row w g ty ty cs (0, 0) d hg hu hd hi]

set_option maxHeartbeats 1000000 in
set_option maxRecDepth 100000 in
theorem View_some {B A : Nat} {L : List Ent} {F : Nat → Prop} {w : World} (ha : ArenaAt B A L F w) {n : Nat} {e : Ent} (he : L[n]? = some e) :
    Calls Tryz.prog 19 #[.pointer (some ⟨A, 0, none⟩), .int .i64 n] w fun r w' => ∃ g, r = .returned (.tuple #[nodeV e.sh (.slice (some ⟨g, 0, none⟩) e.sh.args.length e.sh.args.length), .bool true]) ∧
      w'.ownsRow w.heap.size 36 1 (.slice (some ⟨g, 0, none⟩) e.sh.args.length e.sh.args.length) e.sh.args.length (ints e.sh.args) ∧ Below w.heap.size w w' := by
  obtain ⟨ao, cap, mb, c0, _, hlen, hcells⟩ := ha.read
  obtain ⟨g, rfl, hcx⟩ := hcells n e he
  have hn := (List.getElem?_eq_some_iff.1 he).1
  have hok := ha.wf.ok n e he
  have x0 : w.cell? ⟨g, n * 6, none⟩ = _ := hcx 0 _ rfl
  have x1 : w.cell? ⟨g, n * 6 + 1, none⟩ = _ := hcx 1 _ rfl
  have x2 : w.cell? ⟨g, n * 6 + 2, none⟩ = _ := hcx 2 _ rfl
  have x3 : w.cell? ⟨g, n * 6 + 3, none⟩ = _ := hcx 3 _ rfl
  have x4 : w.cell? ⟨g, n * 6 + 4, none⟩ = _ := hcx 4 _ rfl
  have x5 : w.cell? ⟨g, n * 6 + 5, none⟩ = _ := hcx 5 _ rfl
  have hgl := World.block_lt_of_cell? w _ x0
  have hAl := World.block_lt_of_cell? w _ c0
  simp only at hgl hAl
  obtain ⟨⟨kE, aE, bE, sE, gE⟩, zE⟩ := e
  unfold nodeV
  simp only at x0 x1 x2 x3 x4 x5 ⊢
  have hargs := hok.args
  have hmany := hok.many
  simp only at hargs hmany
  have hup := fun W => unpack_any gE W hmany fun t ht => by have := hargs t ht; omega
  have hb0 : ArenaAt B A L F (w.alloc (.cells #[.int .i64 0, .int .i64 0, .int .i64 0, .string ⟨#[]⟩, .slice none 0 0] 60)) := ha.below ((Below.refl _ _).alloc (Nat.le_refl _) _)
  clear hcells hcx he hok hargs hmany
  go_enter Tryz.func19, Tryz.ntmps19
  go_wp2_with (go_at_call 39; refine (has_yes hb0 _ hn).mono ?_; rintro r w' ⟨rfl, rfl⟩)
  have hN0 : Holds ((w.alloc (.cells #[.int .i64 0, .int .i64 0, .int .i64 0, .string ⟨#[]⟩, .slice none 0 0] 60)).alloc (.cells #[.int .i64 kE, .int .i64 aE, .int .i64 bE, .string sE, .string (packB gE), .int .i64 zE] 90)) w.heap.size 60 #[.int .i64 0, .int .i64 0, .int .i64 0, .string ⟨#[]⟩, .slice none 0 0] := (Holds.new w _ _).moves (S := nobody) ((Moves.refl _ _).alloc _) fun h => h
  have hE0 : Holds ((w.alloc (.cells #[.int .i64 0, .int .i64 0, .int .i64 0, .string ⟨#[]⟩, .slice none 0 0] 60)).alloc (.cells #[.int .i64 kE, .int .i64 aE, .int .i64 bE, .string sE, .string (packB gE), .int .i64 zE] 90)) (w.heap.size + 1) 90 #[.int .i64 kE, .int .i64 aE, .int .i64 bE, .string sE, .string (packB gE), .int .i64 zE] := by
    have := Holds.new (w.alloc (.cells #[.int .i64 0, .int .i64 0, .int .i64 0, .string ⟨#[]⟩, .slice none 0 0] 60)) 90 #[.int .i64 kE, .int .i64 aE, .int .i64 bE, .string sE, .string (packB gE), .int .i64 zE]
    rw [World.size_alloc] at this
    exact this
  have hbel : Below w.heap.size w ((w.alloc (.cells #[.int .i64 0, .int .i64 0, .int .i64 0, .string ⟨#[]⟩, .slice none 0 0] 60)).alloc (.cells #[.int .i64 kE, .int .i64 aE, .int .i64 bE, .string sE, .string (packB gE), .int .i64 zE] 90)) := (((Below.refl _ _).alloc (Nat.le_refl _) _).alloc (by simp) _)
  clear x0 x1 x2 x3 x4 x5 c0 hb0
  generalize ((w.alloc (.cells #[.int .i64 0, .int .i64 0, .int .i64 0, .string ⟨#[]⟩, .slice none 0 0] 60)).alloc (.cells #[.int .i64 kE, .int .i64 aE, .int .i64 bE, .string sE, .string (packB gE), .int .i64 zE] 90)) = W0 at *
  generalize hzz : w.heap.size = N at *
  have HZ := Lib.hid hzz
  clear hzz
  have y0 : W0.drew.cell? ⟨N + 1, 0, none⟩ = some (.int .i64 kE) := hE0.cell 0
  have y1 : W0.drew.cell? ⟨N + 1, 1, none⟩ = some (.int .i64 aE) := hE0.cell 1
  have y2 : W0.drew.cell? ⟨N + 1, 2, none⟩ = some (.int .i64 bE) := hE0.cell 2
  have y3 : W0.drew.cell? ⟨N + 1, 3, none⟩ = some (.string sE) := hE0.cell 3
  have y4 : W0.drew.cell? ⟨N + 1, 4, none⟩ = some (.string (packB gE)) := hE0.cell 4
  have hN1 : Holds W0.drew N 60 #[.int .i64 0, .int .i64 0, .int .i64 0, .string ⟨#[]⟩, .slice none 0 0] := hN0
  have hb1 : Below N w W0.drew := hbel.drew
  have hNl : N + 1 < W0.drew.heap.size := hE0.lt
  clear hN0 hE0 hbel
  go_region_held3 (fun w' => w'.cell? ⟨N + 1, 0, none⟩ = some (.int .i64 kE) ∧ w'.cell? ⟨N + 1, 1, none⟩ = some (.int .i64 aE) ∧ w'.cell? ⟨N + 1, 2, none⟩ = some (.int .i64 bE) ∧ w'.cell? ⟨N + 1, 3, none⟩ = some (.string sE) ∧ w'.cell? ⟨N + 1, 4, none⟩ = some (.string (packB gE)))
    (first | with_reducible exact ⟨y0, y1, y2, y3, y4⟩ | with_reducible exact ⟨z0, z1, z2, z3, z4⟩ | go_keep)
    ((go_at_call 40
      refine (hup _).mono ?_
      rintro r w1 ⟨rfl, hown, hbu⟩
      have z0 := (hbu.cell (p := ⟨N + 1, 0, none⟩) hNl).trans y0
      have z1 := (hbu.cell (p := ⟨N + 1, 1, none⟩) hNl).trans y1
      have z2 := (hbu.cell (p := ⟨N + 1, 2, none⟩) hNl).trans y2
      have z3 := (hbu.cell (p := ⟨N + 1, 3, none⟩) hNl).trans y3
      have z4 := (hbu.cell (p := ⟨N + 1, 4, none⟩) hNl).trans y4
      have hN2 := (hbu.block N (by omega)).trans hN1
      have n0 := Holds.cell hN2 0
      have n1 := Holds.cell hN2 1
      have n2 := Holds.cell hN2 2
      have n3 := Holds.cell hN2 3
      have n4 := Holds.cell hN2 4
      have f0 := Holds.frozen hN2 0
      have f1 := Holds.frozen hN2 1
      have f2 := Holds.frozen hN2 2
      have f3 := Holds.frozen hN2 3
      have f4 := Holds.frozen hN2 4))
  all_goals
    go_wp2_with fail
    have hNf := Holds.set (Holds.set (Holds.set (Holds.set (Holds.set hN2 0 (.int .i64 kE)) 1 (.int .i64 aE)) 2 (.int .i64 bE)) 3 (.string sE)) 4 (.slice (some ⟨W0.heap.size, 0, none⟩) gE.length gE.length)
    have hNW : N < W0.heap.size := by have := hNl; show N < W0.drew.heap.size; omega
    have hof := ownsRow_setCell_below (ownsRow_setCell_below (ownsRow_setCell_below (ownsRow_setCell_below (ownsRow_setCell_below hown (a := ⟨N, 0, none⟩) hNW (.int .i64 kE)) (a := ⟨N, 1, none⟩) hNW (.int .i64 aE)) (a := ⟨N, 2, none⟩) hNW (.int .i64 bE)) (a := ⟨N, 3, none⟩) hNW (.string sE)) (a := ⟨N, 4, none⟩) hNW (.slice (some ⟨W0.heap.size, 0, none⟩) gE.length gE.length)
    have hbf : Below N w _ := ((((((hb1.trans (hbu.mono (show N ≤ W0.drew.heap.size by omega))).setCell (p := ⟨N, 0, none⟩) (Nat.le_refl _) (.int .i64 kE)).setCell (p := ⟨N, 1, none⟩) (Nat.le_refl _) (.int .i64 aE)).setCell (p := ⟨N, 2, none⟩) (Nat.le_refl _) (.int .i64 bE)).setCell (p := ⟨N, 3, none⟩) (Nat.le_refl _) (.string sE)).setCell (p := ⟨N, 4, none⟩) (Nat.le_refl _) (.slice (some ⟨W0.heap.size, 0, none⟩) gE.length gE.length))
    refine bodyPost_ret (v := .tuple #[nodeV ⟨kE, aE, bE, sE, gE⟩ (.slice (some ⟨W0.heap.size, 0, none⟩) gE.length gE.length), .bool true]) ?_ rfl ⟨W0.heap.size, rfl, ?_, ?_⟩
    · exact run_cell_tmp rfl _ _ N _ _ _ rfl rfl hNf Tryz.underlying60 rfl (by kernel_rfl)
    · rw [HZ.out]
      exact owns_lower hof (show N ≤ W0.drew.heap.size by omega)
    · rw [HZ.out]
      exact hbf
end Go.Proofs.YtobhpclemmhpoaaGreatDoor
