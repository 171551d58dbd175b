/- Part 22 of what the statement wants. -/
import Derived.LoopTactic
import Derived.Test.YtgoinpibllomfaaDoorPk21
namespace Go.Proofs.YtgoinpibllomfaaDoor
open Go.RowKit

/-- A configuration of a size that statements go through. -/
structure Few25 (d : CfL) : Prop where
  p : ∀ k < 8, okP15 (d.p k)
  al : d.al.length ≤ 20
  gr : d.gr.length ≤ 20
  ks : d.ks.length ≤ 20
  so : d.so.length ≤ 300
  co : d.co.length ≤ 300
  us : d.us.length ≤ 300
  sl : ∀ x ∈ d.al, x.length ≤ 300
  sg : ∀ x ∈ d.gr, x.user.length ≤ 300
/-- What Go's own bounds say of any configuration. -/
structure CfBig (d : CfL) : Prop where
  so : d.so.length ≤ maxLen
  co : d.co.length ≤ maxLen
  us : d.us.length ≤ maxLen
  p : ∀ k < 8, ∀ x ∈ d.p k, x.length ≤ maxLen
  al : d.al.length ≤ maxLen ∧ ∀ x ∈ d.al, x.length ≤ maxLen
  gr : d.gr.length ≤ maxLen ∧ ∀ x ∈ d.gr, x.user.length ≤ maxLen
  ks : d.ks.length ≤ maxLen
theorem texts_len {w : World} {a : Option Addr} {n c : Nat} {l : List ByteArray} (h : TextsAt w (.slice a n c) l) : n = l.length := by
  obtain ⟨_, _, e, _⟩ := h
  injection e
theorem grants_len {w : World} {a : Option Addr} {n c : Nat} {l : List GrantR} (h : GrantsAt w (.slice a n c) l) : n = l.length := by
  obtain ⟨_, _, e, _⟩ := h
  injection e
theorem ids_len {w : World} {a : Option Addr} {n c : Nat} {l : List Int} (h : IdsAt w (.slice a n c) l) : n = l.length := by
  obtain ⟨_, _, e, _⟩ := h
  injection e

/-- What Few answers. -/
def Fewed25 (w : World) (d : CfL) (e : Ending) (w' : World) : Prop := ∃ z : Bool, e = .returned (.bool z) ∧ (z = true ↔ Few25 d) ∧ Below w.heap.size w w'
set_option maxHeartbeats 4000000 in
set_option maxRecDepth 100000 in
theorem few25_any {w : World} {c : CfV} {d : CfL} (h : CfAt w c d) (h8 : Eight w c.u d.p) (hm : CfBig d) :
    Calls Tryd.prog 18 #[.agg c.row] w (Fewed25 w d) := by
  have hna : c.na = d.al.length := (texts_len h.al).trans (List.length_map _)
  have hng : c.ng = d.gr.length := grants_len h.gr
  have hnk : c.nk = d.ks.length := ids_len h.ks
  have hso : c.so.size = d.so.length := by rw [h.so, bs_size]
  have hco : c.co.size = d.co.length := by rw [h.co, bs_size]
  have hus : c.us.size = d.us.length := by rw [h.us, bs_size]
  have m1 := hm.al.1
  have m2 := hm.gr.1
  have m3 := hm.ks
  have m4 := hm.so
  have m5 := hm.co
  have m6 := hm.us
  unfold maxLen at m1 m2 m3 m4 m5 m6
  rw [← hna] at m1
  rw [← hng] at m2
  rw [← hnk] at m3
  rw [← hso] at m4
  rw [← hco] at m5
  rw [← hus] at m6
  have HLs := Lib.hid (And.intro hna (And.intro hng (And.intro hnk (And.intro hso (And.intro hco hus)))))
  clear hna hng hnk hso hco hus
  have hb : Below w.heap.size w (w.alloc (.cells c.row 51)) := (Below.refl _ _).alloc (Nat.le_refl _) _
  have hN := Holds.new w 51 c.row
  have HC : Hid (∀ k x, d.gr[k]? = some x → ∃ b off, c.ag = some ⟨b, off, none⟩ ∧ ∀ W, Below w.heap.size w W → W.cell? ⟨b, off + k * 2, none⟩ = some (.string (bs x.user))) := fun k x hk => by
    obtain ⟨ag, cg, e0, hc⟩ := h.gr
    injection e0 with e1 e2 e3
    obtain ⟨b, off, e, hlt, hh⟩ := hc (by intro e; rw [e] at hk; simp at hk)
    exact ⟨b, off, e1.trans e, fun W hB => (hB.cell (p := ⟨b, off + k * 2, none⟩) hlt).trans (hh k x hk).1⟩
  have HD : Hid (∀ k x, d.al[k]? = some x → ∃ b off, c.aa = some ⟨b, off, none⟩ ∧ ∀ W, Below w.heap.size w W → W.cell? ⟨b, off + k, none⟩ = some (.string (bs x))) := fun k x hk => by
    obtain ⟨aa, ca, e0, hc⟩ := h.al
    injection e0 with e1 e2 e3
    obtain ⟨b, off, e, hlt, hh⟩ := hc (by intro e; rw [List.map_eq_nil_iff] at e; rw [e] at hk; simp at hk)
    exact ⟨b, off, e1.trans e, fun W hB => (hB.cell (p := ⟨b, off + k, none⟩) hlt).trans (hh k _ (by rw [List.getElem?_map, hk]; rfl))⟩
  have HF8 : Hid (∃ z : Bool, (z = true ↔ ∀ k < 8, okP15 (d.p k)) ∧ Calls Tryd.prog 37 #[.agg #[.slice c.a0 c.n0 c.c0, .slice c.a1 c.n1 c.c1, .slice c.a2 c.n2 c.c2, .slice c.a3 c.n3 c.c3, .slice c.a4 c.n4 c.c4, .slice c.a5 c.n5 c.c5, .slice c.a6 c.n6 c.c6, .slice c.a7 c.n7 c.c7]] (w.alloc (.cells c.row 51)) fun e w' => e = .returned (.bool z) ∧ Below (w.alloc (.cells c.row 51)).heap.size (w.alloc (.cells c.row 51)) w') := by
    have e : agg8 c.u = .agg #[.slice c.a0 c.n0 c.c0, .slice c.a1 c.n1 c.c1, .slice c.a2 c.n2 c.c2, .slice c.a3 c.n3 c.c3, .slice c.a4 c.n4 c.c4, .slice c.a5 c.n5 c.c5, .slice c.a6 c.n6 c.c6, .slice c.a7 c.n7 c.c7] := rfl
    by_cases hp : ∀ k < 8, okP15 (d.p k)
    · refine ⟨true, ⟨fun _ => hp, fun _ => rfl⟩, ?_⟩
      rw [← e]
      exact (few15_any (h8.below hb) hm.p).mono fun e w' ⟨z, h1, h2, h3⟩ => ⟨by rw [h1, h2.2 hp], h3⟩
    · refine ⟨false, ⟨fun e => absurd e (by simp), fun k => absurd k hp⟩, ?_⟩
      rw [← e]
      exact (few15_any (h8.below hb) hm.p).mono fun e w' ⟨z, h1, h2, h3⟩ => ⟨by
        rw [h1]
        cases z with
        | true => exact absurd (h2.1 rfl) hp
        | false => rfl, h3⟩
  have HCe : Hid (∀ W, Below (w.alloc (.cells c.row 51)).heap.size (w.alloc (.cells c.row 51)) W → W.cell? ⟨w.heap.size, 1, none⟩ = some (.string c.so) ∧ W.cell? ⟨w.heap.size, 2, none⟩ = some (.string c.co) ∧ W.cell? ⟨w.heap.size, 3, none⟩ = some (.slice c.a0 c.n0 c.c0) ∧ W.cell? ⟨w.heap.size, 4, none⟩ = some (.slice c.a1 c.n1 c.c1) ∧ W.cell? ⟨w.heap.size, 5, none⟩ = some (.slice c.a2 c.n2 c.c2) ∧ W.cell? ⟨w.heap.size, 6, none⟩ = some (.slice c.a3 c.n3 c.c3) ∧ W.cell? ⟨w.heap.size, 7, none⟩ = some (.slice c.a4 c.n4 c.c4) ∧ W.cell? ⟨w.heap.size, 8, none⟩ = some (.slice c.a5 c.n5 c.c5) ∧ W.cell? ⟨w.heap.size, 9, none⟩ = some (.slice c.a6 c.n6 c.c6) ∧ W.cell? ⟨w.heap.size, 10, none⟩ = some (.slice c.a7 c.n7 c.c7) ∧ W.cell? ⟨w.heap.size, 11, none⟩ = some (.slice c.aa c.na c.ca) ∧ W.cell? ⟨w.heap.size, 13, none⟩ = some (.slice c.ag c.ng c.cg) ∧ W.cell? ⟨w.heap.size, 16, none⟩ = some (.string c.us) ∧ W.cell? ⟨w.heap.size, 17, none⟩ = some (.slice c.ak c.nk c.ck)) := fun W hW => by
    have h1 := Holds.cell (show Holds W w.heap.size 51 c.row from (hW.block _ hN.lt).trans hN)
    exact ⟨h1 1, h1 2, h1 3, h1 4, h1 5, h1 6, h1 7, h1 8, h1 9, h1 10, h1 11, h1 13, h1 16, h1 17⟩
  have HSl := Lib.hid hm.al.2
  have HSg := Lib.hid hm.gr.2
  have HB := Lib.hid hb
  obtain ⟨z15, hz15, hf⟩ := HF8.out
  have HF := Lib.hid hf
  have HZ := Lib.hid hz15
  clear h h8 hm hb hN HF8 hf hz15
  unfold CfV.row at HF HCe HB ⊢
  go_enter Tryd.func18, Tryd.ntmps18
  cases z15 with
  | false =>
    have HNo : Hid (¬ Few25 d) := fun k => absurd (HZ.out.2 k.p) (by simp)
    clear HC HD HSl HSg
    go_wp2_with (go_at_call 37; (with_reducible refine HF.out.mono ?_); rintro e w1 ⟨rfl, b1⟩; have B1 := Lib.hid b1; clear b1; obtain ⟨x1, x2, x3, x4, x5, x6, x7, x8, x9, x10, x11, x13, x16, x17⟩ := HCe.out _ B1.out)
    go_ret
    exact ⟨false, rfl, ⟨fun e => absurd e (by simp), fun k => absurd k HNo.out⟩, HB.out.trans (B1.out.mono HB.out.size)⟩
  | true =>
    by_cases n0 : 20 < c.na
    · have q0 : decide ((c.na : Int) > 20) = true := decide_eq_true (by omega)
      have HNo : Hid (¬ Few25 d) := fun k => by have := k.al; have := HLs.out; omega
      clear HC HD HSl HSg
      go_wp2_with (go_at_call 37; (with_reducible refine HF.out.mono ?_); rintro e w1 ⟨rfl, b1⟩; have B1 := Lib.hid b1; clear b1; obtain ⟨x1, x2, x3, x4, x5, x6, x7, x8, x9, x10, x11, x13, x16, x17⟩ := HCe.out _ B1.out)
      go_ret
      exact ⟨false, rfl, ⟨fun e => absurd e (by simp), fun k => absurd k HNo.out⟩, HB.out.trans (B1.out.mono HB.out.size)⟩
    have q0 : decide ((c.na : Int) > 20) = false := decide_eq_false (by omega)
    by_cases n1 : 20 < c.ng
    · have q1 : decide ((c.ng : Int) > 20) = true := decide_eq_true (by omega)
      have HNo : Hid (¬ Few25 d) := fun k => by have := k.gr; have := HLs.out; omega
      clear HC HD HSl HSg
      go_wp2_with (go_at_call 37; (with_reducible refine HF.out.mono ?_); rintro e w1 ⟨rfl, b1⟩; have B1 := Lib.hid b1; clear b1; obtain ⟨x1, x2, x3, x4, x5, x6, x7, x8, x9, x10, x11, x13, x16, x17⟩ := HCe.out _ B1.out)
      go_ret
      exact ⟨false, rfl, ⟨fun e => absurd e (by simp), fun k => absurd k HNo.out⟩, HB.out.trans (B1.out.mono HB.out.size)⟩
    have q1 : decide ((c.ng : Int) > 20) = false := decide_eq_false (by omega)
    by_cases n2 : 20 < c.nk
    · have q2 : decide ((c.nk : Int) > 20) = true := decide_eq_true (by omega)
      have HNo : Hid (¬ Few25 d) := fun k => by have := k.ks; have := HLs.out; omega
      clear HC HD HSl HSg
      go_wp2_with (go_at_call 37; (with_reducible refine HF.out.mono ?_); rintro e w1 ⟨rfl, b1⟩; have B1 := Lib.hid b1; clear b1; obtain ⟨x1, x2, x3, x4, x5, x6, x7, x8, x9, x10, x11, x13, x16, x17⟩ := HCe.out _ B1.out)
      go_ret
      exact ⟨false, rfl, ⟨fun e => absurd e (by simp), fun k => absurd k HNo.out⟩, HB.out.trans (B1.out.mono HB.out.size)⟩
    have q2 : decide ((c.nk : Int) > 20) = false := decide_eq_false (by omega)
    by_cases n3 : 300 < c.so.size
    · have q3 : decide ((c.so.size : Int) > 300) = true := decide_eq_true (by omega)
      have HNo : Hid (¬ Few25 d) := fun k => by have := k.so; have := HLs.out; omega
      clear HC HD HSl HSg
      go_wp2_with (go_at_call 37; (with_reducible refine HF.out.mono ?_); rintro e w1 ⟨rfl, b1⟩; have B1 := Lib.hid b1; clear b1; obtain ⟨x1, x2, x3, x4, x5, x6, x7, x8, x9, x10, x11, x13, x16, x17⟩ := HCe.out _ B1.out)
      go_ret
      exact ⟨false, rfl, ⟨fun e => absurd e (by simp), fun k => absurd k HNo.out⟩, HB.out.trans (B1.out.mono HB.out.size)⟩
    have q3 : decide ((c.so.size : Int) > 300) = false := decide_eq_false (by omega)
    by_cases n4 : 300 < c.co.size
    · have q4 : decide ((c.co.size : Int) > 300) = true := decide_eq_true (by omega)
      have HNo : Hid (¬ Few25 d) := fun k => by have := k.co; have := HLs.out; omega
      clear HC HD HSl HSg
      go_wp2_with (go_at_call 37; (with_reducible refine HF.out.mono ?_); rintro e w1 ⟨rfl, b1⟩; have B1 := Lib.hid b1; clear b1; obtain ⟨x1, x2, x3, x4, x5, x6, x7, x8, x9, x10, x11, x13, x16, x17⟩ := HCe.out _ B1.out)
      go_ret
      exact ⟨false, rfl, ⟨fun e => absurd e (by simp), fun k => absurd k HNo.out⟩, HB.out.trans (B1.out.mono HB.out.size)⟩
    have q4 : decide ((c.co.size : Int) > 300) = false := decide_eq_false (by omega)
    by_cases n5 : 300 < c.us.size
    · have q5 : decide ((c.us.size : Int) > 300) = true := decide_eq_true (by omega)
      have HNo : Hid (¬ Few25 d) := fun k => by have := k.us; have := HLs.out; omega
      clear HC HD HSl HSg
      go_wp2_with (go_at_call 37; (with_reducible refine HF.out.mono ?_); rintro e w1 ⟨rfl, b1⟩; have B1 := Lib.hid b1; clear b1; obtain ⟨x1, x2, x3, x4, x5, x6, x7, x8, x9, x10, x11, x13, x16, x17⟩ := HCe.out _ B1.out)
      go_ret
      exact ⟨false, rfl, ⟨fun e => absurd e (by simp), fun k => absurd k HNo.out⟩, HB.out.trans (B1.out.mono HB.out.size)⟩
    have q5 : decide ((c.us.size : Int) > 300) = false := decide_eq_false (by omega)
    go_wp2_with (go_at_call 37; (with_reducible refine HF.out.mono ?_); rintro e w1 ⟨rfl, b1⟩; have B1 := Lib.hid b1; clear b1; obtain ⟨x1, x2, x3, x4, x5, x6, x7, x8, x9, x10, x11, x13, x16, x17⟩ := HCe.out _ B1.out)
    have HW := Lib.hid (HB.out.trans (B1.out.mono HB.out.size))
    have HP := Lib.hid (HZ.out.1 (by first | rfl | trivial))
    clear HB B1 HCe HF HZ x3 x4 x5 x6 x7 x8 x9 x10
    go_loopw [3] (fun i wr => ∃ k : Nat, k ≤ c.na ∧ i = .int .i64 k ∧ (∀ x ∈ d.al.take k, x.length ≤ 300) ∧ wr = w1) (fun i _ => c.na - (intOf i).toNat)
    case atStart => exact ⟨0, Nat.zero_le _, rfl, by simp, rfl⟩
    case round =>
      obtain ⟨k, hk, rfl, htk, hw⟩ := hrel
      have hw := hw.symm
      subst hw
      by_cases hlt : k < c.na
      · have hlt' : k < d.al.length := by have := HLs.out; omega
        obtain ⟨x, hx⟩ : ∃ x, x = d.al[k] := ⟨_, rfl⟩
        obtain ⟨b, off, eaa, hcl⟩ := HD.out k x (by rw [hx]; exact List.getElem?_eq_getElem hlt')
        have c1 := hcl _ HW.out
        have hxm : x ∈ d.al := by rw [hx]; exact List.getElem_mem hlt'
        have hsz := bs_size x
        have hsx := HSl.out x hxm
        unfold maxLen at hsx
        rw [eaa] at x11
        by_cases hx1 : 300 < x.length
        · have qx : decide (((bs x).size : Int) > 300) = true := decide_eq_true (by omega)
          have HNo : Hid (¬ Few25 d) := fun k => by have := k.sl x hxm; omega
          clear HC HD HSl HSg hx htk hxm hcl hlt'
          generalize bs x = X at *
          go_wp2_with fail
          go_ret
          exact ⟨false, rfl, ⟨fun e => absurd e (by simp), fun k => absurd k HNo.out⟩, HW.out⟩
        · have qx : decide (((bs x).size : Int) > 300) = false := decide_eq_false (by omega)
          have HT : Hid (∀ y ∈ d.al.take (k + 1), y.length ≤ 300) := fun y hm => by
            rw [List.take_succ_eq_append_getElem hlt', ← hx, List.mem_append] at hm
            rcases hm with hm | hm
            · exact htk y hm
            · simp at hm
              rw [hm]; omega
          clear HC HD HSl HSg hx htk hxm hcl hlt'
          generalize bs x = X at *
          go_wp2_with fail
          go_roundw
          case rel => exact ⟨k + 1, by omega, by go_num, HT.out, trivial⟩
          case measure => simp [intOf]; omega
      · have hkl : k = c.na := by omega
        subst hkl
        have HA : Hid (∀ x ∈ d.al, x.length ≤ 300) := fun x hx => htk x (by rw [HLs.out.1, List.take_length]; exact hx)
        clear htk hlt HD HSl
        go_wp2_with fail
        go_loopw [4] (fun i wr => ∃ k : Nat, k ≤ c.ng ∧ i = .int .i64 k ∧ (∀ x ∈ d.gr.take k, x.user.length ≤ 300) ∧ wr = w1) (fun i _ => c.ng - (intOf i).toNat)
        case atStart => exact ⟨0, Nat.zero_le _, rfl, by simp, rfl⟩
        case round =>
          obtain ⟨k, hk, rfl, htk, hw⟩ := hrel
          have hw := hw.symm
          subst hw
          by_cases hlt : k < c.ng
          · have hlt' : k < d.gr.length := by have := HLs.out; omega
            obtain ⟨x, hx⟩ : ∃ x, x = d.gr[k] := ⟨_, rfl⟩
            obtain ⟨b, off, eaa, hcl⟩ := HC.out k x (by rw [hx]; exact List.getElem?_eq_getElem hlt')
            have c1 := hcl _ HW.out
            have hxm : x ∈ d.gr := by rw [hx]; exact List.getElem_mem hlt'
            have hsz := bs_size x.user
            have hsx := HSg.out x hxm
            unfold maxLen at hsx
            rw [eaa] at x13
            by_cases hx1 : 300 < x.user.length
            · have qx : decide (((bs x.user).size : Int) > 300) = true := decide_eq_true (by omega)
              have HNo : Hid (¬ Few25 d) := fun k => by have := k.sg x hxm; omega
              clear HC HSg hx htk hxm hcl hlt'
              generalize bs x.user = X at *
              go_wp2_with fail
              go_ret
              exact ⟨false, rfl, ⟨fun e => absurd e (by simp), fun k => absurd k HNo.out⟩, HW.out⟩
            · have qx : decide (((bs x.user).size : Int) > 300) = false := decide_eq_false (by omega)
              have HT : Hid (∀ y ∈ d.gr.take (k + 1), y.user.length ≤ 300) := fun y hm => by
                rw [List.take_succ_eq_append_getElem hlt', ← hx, List.mem_append] at hm
                rcases hm with hm | hm
                · exact htk y hm
                · simp at hm
                  rw [hm]; omega
              clear HC HSg hx htk hxm hcl hlt'
              generalize bs x.user = X at *
              go_wp2_with fail
              go_roundw
              case rel => exact ⟨k + 1, by omega, by go_num, HT.out, trivial⟩
              case measure => simp [intOf]; omega
          · have hkl : k = c.ng := by omega
            subst hkl
            have HG : Hid (∀ x ∈ d.gr, x.user.length ≤ 300) := fun x hx => htk x (by rw [HLs.out.2.1, List.take_length]; exact hx)
            have HYes : Hid (Few25 d) := by
              have := HLs.out
              exact ⟨HP.out, by omega, by omega, by omega, by omega, by omega, by omega, HA.out, HG.out⟩
            clear htk hlt HC HSg HA HG HP
            go_wp2_with fail
            go_ret
            exact ⟨true, rfl, ⟨fun _ => HYes.out, fun _ => rfl⟩, HW.out⟩
end Go.Proofs.YtgoinpibllomfaaDoor
