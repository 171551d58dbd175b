/- Part 34 of what the statement wants. -/
import Derived.Deep.RegionHeld3
import Derived.Test.YtkdljicagepebaaGreatDoorPk01
import Derived.Test.YtkdljicagepebaaGreatDoorPk24
import Derived.Test.YtkdljicagepebaaGreatDoorPk32
import Derived.Test.YtkdljicagepebaaGreatDoorPk33
namespace Go.Proofs.YtkdljicagepebaaGreatDoor
open Go.RowKit

theorem yields_row25c {P : Program} {ops : Array Oper} {S : World → Prop} {o : Oper} {a : Act} (hw : Region.wanted o (yielded ops a.tmps) = true) (ty : TypeId) (x : Operand) (ho : o.op = .load ty x)
    (g : Nat) (hx : a.eval x = .pointer (some ⟨g, 0, none⟩)) (t : TypeId) (cs : Array Value) (fr : Nat × Nat) (d : TypeDesc) (hS : ∀ w, S w → w.heap[g]? = some (.cells cs t fr))
    (hu : P.underlying ty = some d) (hd : (match d with | .struct _ | .array _ _ => true | _ => false) = true) (hi : (P.info? ty).map (·.size) = some cs.size) : YieldsIf P ops S o (.agg cs) a :=
  .inl ⟨hw, fun w h => by
    unfold execOp
    simp only [ho, hx, Instr.loadAt, Instr.sureAddr, Sem.run_bind, Sem.run_pure, Result.andThen_ok, run_loadVar_row w g t ty cs fr d (hS w h) hu hd hi]⟩
theorem word_small25 {m : Nat} (hm : m < 8) : (bs (wordZ m)).size ≤ 10 := by
  have h : ∀ m < 8, (wordZ ((m : Nat) : Int)).length ≤ 10 := by decide +kernel
  rw [bs_size]
  exact h m hm
theorem gateS_small25 (i : Nat) : (gateS i).size ≤ 10 := by
  unfold gateS
  split
  · decide
  · split
    · decide
    · split <;> decide
set_option maxHeartbeats 4000000 in
set_option maxRecDepth 100000 in
theorem r25Check_any {w : World} {c : CfV} {d : CfL} (h : CfAt w c d) (h8 : Eight w c.u d.p) (hr : Room24 (.slice c.aa c.na c.ca)) (hs : CfSized d) (g0 : c.w0 < 4294967296) (g1 : c.w1 < 4294967296) (g2 : c.w2 < 4294967296) :
    Calls Tryz.prog 7 #[.agg c.row] w fun e w' => e = .returned (.tuple #[.int .i64 (tellO (confO c d)).1, .string (tellO (confO c d)).2]) ∧ Below w.heap.size w w' := by
  have hb : Below w.heap.size w (w.alloc (.cells c.row 30)) := (Below.refl _ _).alloc (Nat.le_refl _) _
  have hN := Holds.new w 30 c.row
  have HBx : Hid (∀ W, Below (w.alloc (.cells c.row 30)).heap.size (w.alloc (.cells c.row 30)) W → W.heap[w.heap.size]? = some (.cells c.row 30 (0, 0))) := fun W hW => (hW.block _ hN.lt).trans hN
  have HCe : Hid (∀ W, Below (w.alloc (.cells c.row 30)).heap.size (w.alloc (.cells c.row 30)) W → W.cell? ⟨w.heap.size, 0, none⟩ = some (.bool c.sv) ∧ W.cell? ⟨w.heap.size, 3, none⟩ = some (.slice c.a0 c.n0 c.c0) ∧ W.cell? ⟨w.heap.size, 4, none⟩ = some (.slice c.a1 c.n1 c.c1) ∧ W.cell? ⟨w.heap.size, 5, none⟩ = some (.slice c.a2 c.n2 c.c2) ∧ W.cell? ⟨w.heap.size, 6, none⟩ = some (.slice c.a3 c.n3 c.c3) ∧ W.cell? ⟨w.heap.size, 7, none⟩ = some (.slice c.a4 c.n4 c.c4) ∧ W.cell? ⟨w.heap.size, 8, none⟩ = some (.slice c.a5 c.n5 c.c5) ∧ W.cell? ⟨w.heap.size, 9, none⟩ = some (.slice c.a6 c.n6 c.c6) ∧ W.cell? ⟨w.heap.size, 10, none⟩ = some (.slice c.a7 c.n7 c.c7) ∧ W.cell? ⟨w.heap.size, 11, none⟩ = some (.slice c.aa c.na c.ca) ∧ W.cell? ⟨w.heap.size, 12, none⟩ = some (.int .i64 c.ow) ∧ W.cell? ⟨w.heap.size, 13, none⟩ = some (.slice c.ag c.ng c.cg) ∧ W.cell? ⟨w.heap.size, 14, none⟩ = some (.int .i64 c.li)) := fun W hW => by
    have h1 := Holds.cell (show Holds W w.heap.size 30 c.row from (hW.block _ hN.lt).trans hN)
    exact ⟨h1 0, h1 3, h1 4, h1 5, h1 6, h1 7, h1 8, h1 9, h1 10, h1 11, h1 12, h1 13, h1 14⟩
  have BR : Hid (Below (w.alloc (.cells c.row 30)).heap.size (w.alloc (.cells c.row 30)) (w.alloc (.cells c.row 30))) := Below.refl _ _
  have hs6 : ∀ k < 8, ∀ x ∈ d.p k, x.length ≤ 1000000 := fun k hk x hx => by have := (hs.p k hk).2 x hx; omega
  have HV : Hid (∀ W, Below (w.alloc (.cells c.row 30)).heap.size (w.alloc (.cells c.row 30)) W → Calls Tryz.prog 9 #[.agg c.row] W fun e w' => e = .returned (.string (bs (lnMake d.so d.co))) ∧ Below W.heap.size W w') := fun W hW => r25Version_any ((h.below hb).below hW) hs
  have HB := Lib.hid hb
  cases h0 : lnOk d.so d.co with
  | false =>
    rw [(lnMake_no h0).1, show bs [] = ⟨#[]⟩ from rfl] at HV
    rw [tell_ver h0]
    clear h h8 hr hs g0 g1 g2 hN hb h0 hs6
    go_enter Tryz.func7, Tryz.ntmps7
    go_wp2_with (first
      | (refine wpList_load_row rfl 30 _ rfl w.heap.size rfl 30 c.row (0, 0) _ (by exact HBx.out _ BR.out) Tryz.underlying30 rfl (by exact sizeConfH) ?_)
      | (go_at_call 9; (with_reducible refine (HV.out _ BR.out).mono ?_); rintro e w1 ⟨rfl, b1⟩; have B1 := Lib.hid b1; clear b1; obtain ⟨z0, z3, z4, z5, z6, z7, z8, z9, z10, z11, z12, z13, z14⟩ := HCe.out _ B1.out))
    go_ret2
    exact ⟨rfl, HB.out.trans (B1.out.mono HB.out.size)⟩
  | true =>
  rw [(lnMake_yes h0).1] at HV
  obtain ⟨r, hrl⟩ := lnLine_ver d.so d.co
  have qv : (bs (lnLine d.so d.co)).toList.isEmpty = false := by
    rw [bs_isEmpty, hrl]
    rfl
  generalize bs (lnLine d.so d.co) = L at *
  clear hrl
  rcases bad_or d.p with hok | ⟨m, hbad⟩
  · have HPf : Hid (∀ W, Below (w.alloc (.cells c.row 30)).heap.size (w.alloc (.cells c.row 30)) W → Calls Tryz.prog 15 #[.agg #[.slice c.a0 c.n0 c.c0, .slice c.a1 c.n1 c.c1, .slice c.a2 c.n2 c.c2, .slice c.a3 c.n3 c.c3, .slice c.a4 c.n4 c.c4, .slice c.a5 c.n5 c.c5, .slice c.a6 c.n6 c.c6, .slice c.a7 c.n7 c.c7]] W fun e w' => e = .returned (.tuple #[.int .i64 0, .int .i64 (-1)]) ∧ Below W.heap.size W w') := fun W hW => by
      rw [← show agg8 c.u = .agg #[.slice c.a0 c.n0 c.c0, .slice c.a1 c.n1 c.c1, .slice c.a2 c.n2 c.c2, .slice c.a3 c.n3 c.c3, .slice c.a4 c.n4 c.c4, .slice c.a5 c.n5 c.c5, .slice c.a6 c.n6 c.c6, .slice c.a7 c.n7 c.c7] from rfl]
      exact r15Check_ok ((h8.below hb).below hW) hs6 hok
    cases hsv : c.sv with
    | true =>
      rw [tell_srv hsv h0 (prefsO_ok hok)]
      rw [hsv] at HCe
      have HPr := Lib.hid (r25principal_any c.ow)
      have HG : Hid (∀ W, Below (w.alloc (.cells c.row 30)).heap.size (w.alloc (.cells c.row 30)) W → Calls Tryz.prog 18 #[.slice c.ag c.ng c.cg, .slice c.aa c.na c.ca, .int .i64 c.li] W fun e w' => e = .returned (.tuple #[.int .i64 (gateZ d.gr d.al c.li), .string (gateS (gateI d.gr d.al c.li))]) ∧ Below W.heap.size W w') := fun W hW => r24Check_any ((h.gr.below hb).below hW) (by have := hs.gr.1; unfold maxLen; omega) (fun x hx => by have := hs.gr.2 x hx; omega) ((h.al.below hb).below hW) hr (by have := hs.al.1; unfold maxLen; omega) (fun x hx => by have := hs.al.2 x hx; omega) c.li
      have hS := gateS_small25 (gateI d.gr d.al c.li)
      clear h h8 hr hs g0 g1 g2 hN hb h0 hs6 hok hsv
      generalize gateS (gateI d.gr d.al c.li) = S at *
      generalize gateZ d.gr d.al c.li = Z at *
      have hS2 : ((⟨#[99, 111, 110, 102, 32, 100, 101, 110, 121, 32]⟩ : ByteArray) ++ S).size ≤ 2000 := by
        rw [ByteArray.size_append]
        have : (⟨#[99, 111, 110, 102, 32, 100, 101, 110, 121, 32]⟩ : ByteArray).size = 10 := rfl
        omega
      generalize whoB c.ow = A at *
      cases A with
      | false =>
        go_enter Tryz.func7, Tryz.ntmps7
        go_wp2_with (first
          | (refine wpList_load_row rfl 30 _ rfl w.heap.size rfl 30 c.row (0, 0) _ (by exact HBx.out _ BR.out) Tryz.underlying30 rfl (by exact sizeConfH) ?_)
          | (go_at_call 9; (with_reducible refine (HV.out _ BR.out).mono ?_); rintro e w1 ⟨rfl, b1⟩; have B1 := Lib.hid b1; clear b1; obtain ⟨z0, z3, z4, z5, z6, z7, z8, z9, z10, z11, z12, z13, z14⟩ := HCe.out _ B1.out)
          | (go_at_call 15; (with_reducible refine (HPf.out _ B1.out).mono ?_); rintro e w2 ⟨rfl, b2⟩; have B2 := Lib.hid (B1.out.trans (b2.mono B1.out.size)); clear b2 z0 z3 z4 z5 z6 z7 z8 z9 z10 z11 z12 z13 z14; obtain ⟨z0, z3, z4, z5, z6, z7, z8, z9, z10, z11, z12, z13, z14⟩ := HCe.out _ B2.out)
          | (go_at_call 17; (with_reducible refine (HPr.out _).mono ?_); rintro e w3 ⟨rfl, b3⟩; have B3 := Lib.hid (B2.out.trans (b3.mono B2.out.size)); clear b3))
        go_ret2
        exact ⟨by simp, HB.out.trans (B3.out.mono HB.out.size)⟩
      | true =>
        by_cases hz : Z = 0
        · subst hz
          go_enter Tryz.func7, Tryz.ntmps7
          go_wp2_with (first
            | (refine wpList_load_row rfl 30 _ rfl w.heap.size rfl 30 c.row (0, 0) _ (by exact HBx.out _ BR.out) Tryz.underlying30 rfl (by exact sizeConfH) ?_)
            | (go_at_call 9; (with_reducible refine (HV.out _ BR.out).mono ?_); rintro e w1 ⟨rfl, b1⟩; have B1 := Lib.hid b1; clear b1; obtain ⟨z0, z3, z4, z5, z6, z7, z8, z9, z10, z11, z12, z13, z14⟩ := HCe.out _ B1.out)
            | (go_at_call 15; (with_reducible refine (HPf.out _ B1.out).mono ?_); rintro e w2 ⟨rfl, b2⟩; have B2 := Lib.hid (B1.out.trans (b2.mono B1.out.size)); clear b2 z0 z3 z4 z5 z6 z7 z8 z9 z10 z11 z12 z13 z14; obtain ⟨z0, z3, z4, z5, z6, z7, z8, z9, z10, z11, z12, z13, z14⟩ := HCe.out _ B2.out)
            | (go_at_call 17; (with_reducible refine (HPr.out _).mono ?_); rintro e w3 ⟨rfl, b3⟩; have B3 := Lib.hid (B2.out.trans (b3.mono B2.out.size)); clear b3 z0 z3 z4 z5 z6 z7 z8 z9 z10 z11 z12 z13 z14; obtain ⟨z0, z3, z4, z5, z6, z7, z8, z9, z10, z11, z12, z13, z14⟩ := HCe.out _ B3.out)
            | (go_at_call 18; (with_reducible refine (HG.out _ B3.out).mono ?_); rintro e w4 ⟨rfl, b4⟩; have B4 := Lib.hid (B3.out.trans (b4.mono B3.out.size)); clear b4))
          go_ret2
          exact ⟨by simp, HB.out.trans (B4.out.mono HB.out.size)⟩
        · have qz : (Z != 0) = true := by simpa using hz
          go_enter Tryz.func7, Tryz.ntmps7
          go_wp2_with (first
            | (refine wpList_load_row rfl 30 _ rfl w.heap.size rfl 30 c.row (0, 0) _ (by exact HBx.out _ BR.out) Tryz.underlying30 rfl (by exact sizeConfH) ?_)
            | (go_at_call 9; (with_reducible refine (HV.out _ BR.out).mono ?_); rintro e w1 ⟨rfl, b1⟩; have B1 := Lib.hid b1; clear b1; obtain ⟨z0, z3, z4, z5, z6, z7, z8, z9, z10, z11, z12, z13, z14⟩ := HCe.out _ B1.out)
            | (go_at_call 15; (with_reducible refine (HPf.out _ B1.out).mono ?_); rintro e w2 ⟨rfl, b2⟩; have B2 := Lib.hid (B1.out.trans (b2.mono B1.out.size)); clear b2 z0 z3 z4 z5 z6 z7 z8 z9 z10 z11 z12 z13 z14; obtain ⟨z0, z3, z4, z5, z6, z7, z8, z9, z10, z11, z12, z13, z14⟩ := HCe.out _ B2.out)
            | (go_at_call 17; (with_reducible refine (HPr.out _).mono ?_); rintro e w3 ⟨rfl, b3⟩; have B3 := Lib.hid (B2.out.trans (b3.mono B2.out.size)); clear b3 z0 z3 z4 z5 z6 z7 z8 z9 z10 z11 z12 z13 z14; obtain ⟨z0, z3, z4, z5, z6, z7, z8, z9, z10, z11, z12, z13, z14⟩ := HCe.out _ B3.out)
            | (go_at_call 18; (with_reducible refine (HG.out _ B3.out).mono ?_); rintro e w4 ⟨rfl, b4⟩; have B4 := Lib.hid (B3.out.trans (b4.mono B3.out.size)); clear b4))
          go_ret2
          exact ⟨by simp [hz], HB.out.trans (B4.out.mono HB.out.size)⟩
    | false =>
      rw [tell_cli hsv h0 (prefsO_ok hok)]
      rw [hsv] at HCe
      have HCl := Lib.hid (fun (W : World) (hW : Below (w.alloc (.cells c.row 30)).heap.size (w.alloc (.cells c.row 30)) W) => r25client_any ((h.below hb).below hW) hr hs g0 g1 g2)
      clear h h8 hr hs g0 g1 g2 hN hb h0 hs6 hok hsv
      generalize cliR (whoB c.pe) (userP d.us) (decide (d.ks.length ≤ 8)) (d.ks.all whoB) (algsZ d.al) (rightB c.w0 c.w1 c.w2) = R at *
      go_enter Tryz.func7, Tryz.ntmps7
      go_wp2_with (first
        | (refine wpList_load_row rfl 30 _ rfl w.heap.size rfl 30 c.row (0, 0) _ (by exact HBx.out _ B2.out) Tryz.underlying30 rfl (by exact sizeConfH) ?_)
        | (refine wpList_load_row rfl 30 _ rfl w.heap.size rfl 30 c.row (0, 0) _ (by exact HBx.out _ BR.out) Tryz.underlying30 rfl (by exact sizeConfH) ?_)
        | (go_at_call 9; (with_reducible refine (HV.out _ BR.out).mono ?_); rintro e w1 ⟨rfl, b1⟩; have B1 := Lib.hid b1; clear b1; obtain ⟨z0, z3, z4, z5, z6, z7, z8, z9, z10, z11, z12, z13, z14⟩ := HCe.out _ B1.out)
        | (go_at_call 15; (with_reducible refine (HPf.out _ B1.out).mono ?_); rintro e w2 ⟨rfl, b2⟩; have B2 := Lib.hid (B1.out.trans (b2.mono B1.out.size)); clear b2 z0 z3 z4 z5 z6 z7 z8 z9 z10 z11 z12 z13 z14; obtain ⟨z0, z3, z4, z5, z6, z7, z8, z9, z10, z11, z12, z13, z14⟩ := HCe.out _ B2.out)
        | (go_at_call 19; (with_reducible refine (HCl.out _ B2.out).mono ?_); rintro e w3 ⟨rfl, b3⟩; have B3 := Lib.hid (B2.out.trans (b3.mono B2.out.size)); clear b3))
      go_ret2
      exact ⟨rfl, HB.out.trans (B3.out.mono HB.out.size)⟩
  · rw [tell_pref h0 hbad]
    have HPf : Hid (∀ W, Below (w.alloc (.cells c.row 30)).heap.size (w.alloc (.cells c.row 30)) W → Calls Tryz.prog 15 #[.agg #[.slice c.a0 c.n0 c.c0, .slice c.a1 c.n1 c.c1, .slice c.a2 c.n2 c.c2, .slice c.a3 c.n3 c.c3, .slice c.a4 c.n4 c.c4, .slice c.a5 c.n5 c.c5, .slice c.a6 c.n6 c.c6, .slice c.a7 c.n7 c.c7]] W fun e w' => e = .returned (.tuple #[.int .i64 (oneP m (d.p m)), .int .i64 (m : Int)]) ∧ Below W.heap.size W w') := fun W hW => by
      rw [← show agg8 c.u = .agg #[.slice c.a0 c.n0 c.c0, .slice c.a1 c.n1 c.c1, .slice c.a2 c.n2 c.c2, .slice c.a3 c.n3 c.c3, .slice c.a4 c.n4 c.c4, .slice c.a5 c.n5 c.c5, .slice c.a6 c.n6 c.c6, .slice c.a7 c.n7 c.c7] from rfl]
      exact r15Check_bad ((h8.below hb).below hW) hs6 hbad
    have HWd := Lib.hid (fun W => r15Word_any (m : Int) W)
    have hS := word_small25 hbad.1
    have qz : (oneP m (d.p m) != 0) = true := by simpa using hbad.2.2
    clear h h8 hr hs g0 g1 g2 hN hb h0 hs6 hbad
    generalize oneP m (d.p m) = Z at *
    generalize bs (wordZ (m : Int)) = S at *
    have hS2 : ((⟨#[99, 111, 110, 102, 32, 112, 114, 101, 102, 115, 32]⟩ : ByteArray) ++ S).size ≤ 2000 := by
      rw [ByteArray.size_append]
      have : (⟨#[99, 111, 110, 102, 32, 112, 114, 101, 102, 115, 32]⟩ : ByteArray).size = 11 := rfl
      omega
    go_enter Tryz.func7, Tryz.ntmps7
    go_wp2_with (first
      | (refine wpList_load_row rfl 30 _ rfl w.heap.size rfl 30 c.row (0, 0) _ (by exact HBx.out _ BR.out) Tryz.underlying30 rfl (by exact sizeConfH) ?_)
      | (go_at_call 9; (with_reducible refine (HV.out _ BR.out).mono ?_); rintro e w1 ⟨rfl, b1⟩; have B1 := Lib.hid b1; clear b1; obtain ⟨z0, z3, z4, z5, z6, z7, z8, z9, z10, z11, z12, z13, z14⟩ := HCe.out _ B1.out)
      | (go_at_call 15; (with_reducible refine (HPf.out _ B1.out).mono ?_); rintro e w2 ⟨rfl, b2⟩; have B2 := Lib.hid (B1.out.trans (b2.mono B1.out.size)); clear b2 z0 z3 z4 z5 z6 z7 z8 z9 z10 z11 z12 z13 z14; obtain ⟨z0, z3, z4, z5, z6, z7, z8, z9, z10, z11, z12, z13, z14⟩ := HCe.out _ B2.out)
      | (go_at_call 16; (with_reducible refine (HWd.out _).mono ?_); rintro e w3 ⟨rfl, b3⟩; have B3 := Lib.hid (B2.out.trans (b3.mono B2.out.size)); clear b3))
    go_ret2
    exact ⟨rfl, HB.out.trans (B3.out.mono HB.out.size)⟩
theorem unless_some25 {b : Bool} {x : ByteArray} {e : Int} {q : List ByteArray × Int} (h : unlessP b x e = some q) : q = ([x], e) := by
  unfold unlessP at h
  split at h
  · cases h
  · exact (Option.some.inj h).symm
theorem prefs_some25 {p : Nat → List (List UInt8)} {q : List ByteArray × Int} (h : prefsO p = some q) : ∃ m, BadAt p m ∧ q = ([prefsS, bs (wordZ (m : Int))], oneP m (p m)) := by
  rcases bad_or p with hok | ⟨m, hb⟩
  · rw [prefsO_ok hok] at h
    cases h
  · rw [prefsO_bad hb] at h
    exact ⟨m, hb, (Option.some.inj h).symm⟩
theorem gate_some25 {l : List GrantR} {al : List (List UInt8)} {lim : Int} {q : List ByteArray × Int} (h : gateO l al lim = some q) : gateZ l al lim ≠ 0 ∧ q = ([denyS, gateS (gateI l al lim)], gateZ l al lim) := by
  unfold gateO at h
  split at h
  · cases h
  · rename_i hz
    exact ⟨hz, (Option.some.inj h).symm⟩
/-- What a part says is a number that is not 0, within at most two places. -/
theorem parts_some25 {c : CfV} {d : CfL} {k : Nat} {q : List ByteArray × Int} (h : partsO c d k = some q) : q.2 ≠ 0 ∧ q.1.length ≤ 2 ∧ ∀ x ∈ q.1, x.size ≤ 1000 := by
  have one : ∀ {b : Bool} {x : ByteArray} {e : Int}, unlessP b x e = some q → e ≠ 0 → x.size ≤ 1000 → q.2 ≠ 0 ∧ q.1.length ≤ 2 ∧ ∀ x ∈ q.1, x.size ≤ 1000 := fun h he hx => by
    rw [unless_some25 h]
    exact ⟨he, by simp, fun y hy => by rw [List.mem_singleton.1 hy]; exact hx⟩
  have gate : ∀ {l : List GrantR} {al : List (List UInt8)} {lim : Int}, gateO l al lim = some q → q.2 ≠ 0 ∧ q.1.length ≤ 2 ∧ ∀ x ∈ q.1, x.size ≤ 1000 := fun {l al lim} h => by
    obtain ⟨hz, rfl⟩ := gate_some25 h
    refine ⟨hz, by simp, fun y hy => ?_⟩
    simp only [List.mem_cons, List.not_mem_nil, or_false] at hy
    rcases hy with rfl | rfl
    · decide
    · have := gateS_small25 (gateI l al lim); omega
  unfold partsO at h
  split at h
  · exact one h (by decide) (by decide)
  split at h
  · obtain ⟨m, hb, rfl⟩ := prefs_some25 h
    refine ⟨hb.2.2, by simp, fun y hy => ?_⟩
    simp only [List.mem_cons, List.not_mem_nil, or_false] at hy
    rcases hy with rfl | rfl
    · decide
    · have := word_small25 hb.1; omega
  split at h
  · split at h
    · exact one h (by decide) (by decide)
    · exact gate h
  split at h
  · exact one h (by decide) (by decide)
  split at h
  · exact one h (by decide) (by decide)
  split at h
  · exact one h (by decide) (by decide)
  split at h
  · exact one h (by decide) (by decide)
  split at h
  · exact gate h
  · exact one h (by decide) (by decide)
theorem first_some25 {o : Nat → Option (List ByteArray × Int)} : ∀ {n : Nat} {q : List ByteArray × Int}, firstO o n = some q → ∃ k, o k = some q
  | 0, _, h => by cases h
  | n + 1, q, h => by
    unfold firstO at h
    split at h
    · rename_i x hx
      obtain ⟨k, hk⟩ := first_some25 hx
      exact ⟨k, by rw [hk, h]⟩
    · exact ⟨n, h⟩
theorem conf_some25 {c : CfV} {d : CfL} {q : List ByteArray × Int} (h : confO c d = some q) : q.2 ≠ 0 ∧ q.1.length ≤ 20 ∧ ∀ x ∈ q.1, x.size ≤ 1000 := by
  unfold confO at h
  obtain ⟨r, hr, rfl⟩ := Option.map_eq_some_iff.1 h
  obtain ⟨k, hk⟩ := first_some25 hr
  obtain ⟨h1, h2, h3⟩ := parts_some25 hk
  refine ⟨h1, by simp only [List.length_cons]; omega, fun x hx => ?_⟩
  rcases List.mem_cons.1 hx with rfl | hx
  · decide
  · exact h3 x hx
set_option maxHeartbeats 8000000 in
set_option maxRecDepth 100000 in
theorem ConfChecks_any {w : World} (hTy : TypeOfError w) (hT : Tab15 w) {c : CfV} {d : CfL} (h : CfAt w c d) (h8 : Eight w c.u d.p) (hm : CfBig d) (hr : Room24 (.slice c.aa c.na c.ca)) (g0 : c.w0 < 4294967296) (g1 : c.w1 < 4294967296) (g2 : c.w2 < 4294967296) :
    Calls Tryz.prog 3 #[.agg c.row] w fun e w' => e = .returned (.bool true) ∧ Below w.heap.size w w' := by
  have hb : Below w.heap.size w (w.alloc (.cells c.row 30)) := (Below.refl _ _).alloc (Nat.le_refl _) _
  have hN := Holds.new w 30 c.row
  have HBx : Hid (∀ W, Below (w.alloc (.cells c.row 30)).heap.size (w.alloc (.cells c.row 30)) W → W.heap[w.heap.size]? = some (.cells c.row 30 (0, 0))) := fun W hW => (hW.block _ hN.lt).trans hN
  have BR : Hid (Below (w.alloc (.cells c.row 30)).heap.size (w.alloc (.cells c.row 30)) (w.alloc (.cells c.row 30))) := Below.refl _ _
  have HAw : Hid (∀ W, Below (w.alloc (.cells c.row 30)).heap.size (w.alloc (.cells c.row 30)) W → Calls Tryz.prog 5 #[] W fun e w' => e = .returned (.bool true) ∧ Below W.heap.size W w') := fun W hW => awake25_any ((hT.below hb).below hW)
  have HFw := few25_any (h.below hb) (h8.below hb) hm
  have HB := Lib.hid hb
  by_cases hf : Few25 d
  · have HF : Hid (Calls Tryz.prog 4 #[.agg c.row] (w.alloc (.cells c.row 30)) fun e w' => e = .returned (.bool true) ∧ Below (w.alloc (.cells c.row 30)).heap.size (w.alloc (.cells c.row 30)) w') := HFw.mono fun e w' ⟨z, h1, h2, h3⟩ => ⟨by rw [h1, h2.2 hf], h3⟩
    have hs := hf.sized
    have HCk : Hid (∀ W, Below (w.alloc (.cells c.row 30)).heap.size (w.alloc (.cells c.row 30)) W → Calls Tryz.prog 6 #[.agg c.row] W (Checked W (confO c d))) := fun W hW => cfCheck_any ((hT.below hb).below hW) ((h.below hb).below hW) hs
    have HRc : Hid (∀ W, Below (w.alloc (.cells c.row 30)).heap.size (w.alloc (.cells c.row 30)) W → Calls Tryz.prog 7 #[.agg c.row] W fun e w' => e = .returned (.tuple #[.int .i64 (tellO (confO c d)).1, .string (tellO (confO c d)).2]) ∧ Below W.heap.size W w') := fun W hW => r25Check_any ((h.below hb).below hW) ((h8.below hb).below hW) hr hs g0 g1 g2
    have HVp : Hid (∀ W, Below (w.alloc (.cells c.row 30)).heap.size (w.alloc (.cells c.row 30)) W → Calls Tryz.prog 8 #[.agg c.row] W fun e w' => e = .returned (.string (bs (lnMake d.so d.co))) ∧ Below W.heap.size W w') := fun W hW => cfVersion_any ((h.below hb).below hW) hs
    have HVr : Hid (∀ W, Below (w.alloc (.cells c.row 30)).heap.size (w.alloc (.cells c.row 30)) W → Calls Tryz.prog 9 #[.agg c.row] W fun e w' => e = .returned (.string (bs (lnMake d.so d.co))) ∧ Below W.heap.size W w') := fun W hW => r25Version_any ((h.below hb).below hW) hs
    generalize bs (lnMake d.so d.co) = V at *
    have hv : (V.toList == V.toList) = true := by simp
    cases ho : confO c d with
    | none =>
      rw [ho] at HCk HRc
      simp only [tellO] at HRc
      have HCk : Hid (∀ W, Below (w.alloc (.cells c.row 30)).heap.size (w.alloc (.cells c.row 30)) W → Calls Tryz.prog 6 #[.agg c.row] W fun e w' => e = .returned .nilIface ∧ Below W.heap.size W w') := fun W hW => (HCk.out W hW).mono fun e w' ⟨v, h1, h2, h3⟩ => ⟨by rw [h1, show v = .nilIface from h2], h3⟩
      clear hTy hT h h8 hm hr g0 g1 g2 hN hb hf hs HFw ho
      go_enter Tryz.func3, Tryz.ntmps3
      go_upto_region 5 with (first
        | (refine wpList_load_row rfl 30 _ rfl w.heap.size rfl 30 c.row (0, 0) _ (by exact HBx.out _ B2.out) Tryz.underlying30 rfl (by exact sizeConfH) ?_)
        | (refine wpList_load_row rfl 30 _ rfl w.heap.size rfl 30 c.row (0, 0) _ (by exact HBx.out _ B1.out) Tryz.underlying30 rfl (by exact sizeConfH) ?_)
        | (refine wpList_load_row rfl 30 _ rfl w.heap.size rfl 30 c.row (0, 0) _ (by exact HBx.out _ BR.out) Tryz.underlying30 rfl (by exact sizeConfH) ?_)
        | (go_at_call 4; (with_reducible refine HF.out.mono ?_); rintro e w1 ⟨rfl, b1⟩; have B1 := Lib.hid b1; clear b1)
        | (go_at_call 6; (with_reducible refine (HCk.out _ B1.out).mono ?_); rintro e w2 ⟨rfl, b2⟩; have B2 := Lib.hid (B1.out.trans (b2.mono B1.out.size)); clear b2)
        | (go_at_call 7; (with_reducible refine (HRc.out _ B2.out).mono ?_); rintro e w3 ⟨rfl, b3⟩; have B3 := Lib.hid (B2.out.trans (b3.mono B2.out.size)); clear b3))
      have B3d := Lib.hid (B3.out.trans (Below.refl _ _).drew)
      refine wp_region_held_drew (S := fun W => W.heap[w.heap.size]? = some (.cells c.row 30 (0, 0))) (by kernel_rfl) ?_ (fun hHeld => ?_)
      · exact HBx.out _ B3d.out
      refine wpAnyH_take (i := 0) (oi := { dst := some 17, op := Op.load 30 (Operand.tmp 1), type := 30, pos := "law.go:69", after := #[], guard := none }) (v := .agg c.row) rfl (by kernel_rfl) (by kernel_rfl) (by kernel_rfl) (fun _ _ _ h => h) (yields_row25c (by rfl) 30 _ rfl w.heap.size rfl 30 c.row (0, 0) _ (fun _ h => h) Tryz.underlying30 rfl sizeConfH) (by assumption) ?_
      try simp only [Act.put, List.setIfInBounds_toArray, List.set_cons_zero, List.set_cons_succ]
      refine wpAnyH_take (i := 2) (oi := { dst := some 19, op := Op.load 30 (Operand.tmp 1), type := 30, pos := "law.go:69", after := #[], guard := none }) (v := .agg c.row) rfl (by kernel_rfl) (by kernel_rfl) (by kernel_rfl) (fun _ _ _ h => h) (yields_row25c (by rfl) 30 _ rfl w.heap.size rfl 30 c.row (0, 0) _ (fun _ h => h) Tryz.underlying30 rfl sizeConfH) (by assumption) ?_
      try simp only [Act.put, List.setIfInBounds_toArray, List.set_cons_zero, List.set_cons_succ]
      refine wpAnyH_ready (rs := [1]) (by kernel_rfl) (by simp) ?_
      refine AllReadyH.cons (o := { dst := some 18, op := Op.call { callee := Callee.value (Operand.func 8), args := #[Operand.tmp 17], argTypes := #[30] }, type := 9, pos := "law.go:69", after := #[{ on := 0, ground := Ground.data }], guard := none }) rfl (fun K hK => ?_) AllReadyH.nil
      go_simp
      go_at_call 8
      with_reducible refine (HVp.out _ B3d.out).mono ?_
      rintro e w4 ⟨rfl, b4⟩
      have B4 := Lib.hid (B3d.out.trans (b4.mono B3d.out.size))
      have Y4 := Lib.hid ((Below.refl _ _).drew.trans b4)
      clear b4
      go_wp2_with fail
      refine hK.out _ _ ?_ (fun hHeld => ?_)
      · exact HBx.out _ B4.out
      clear hK K
      try simp only [Act.put, List.setIfInBounds_toArray, List.set_cons_zero, List.set_cons_succ]
      refine wpAnyH_ready (rs := [3]) (by kernel_rfl) (by simp) ?_
      refine AllReadyH.cons (o := { dst := some 20, op := Op.call { callee := Callee.value (Operand.func 9), args := #[Operand.tmp 19], argTypes := #[30] }, type := 9, pos := "law.go:69", after := #[{ on := 2, ground := Ground.data }, { on := 1, ground := Ground.chain }], guard := none }) rfl (fun K hK => ?_) AllReadyH.nil
      go_simp
      go_at_call 9
      with_reducible refine (HVr.out _ B4.out).mono ?_
      rintro e w5 ⟨rfl, b5⟩
      have B5 := Lib.hid (B4.out.trans (b5.mono B4.out.size))
      have Y5 := Lib.hid (Y4.out.trans (b5.mono Y4.out.size))
      clear b5
      go_wp2_with fail
      refine hK.out _ _ ?_ (fun hHeld => ?_)
      · exact HBx.out _ B5.out
      clear hK K
      try simp only [Act.put, List.setIfInBounds_toArray, List.set_cons_zero, List.set_cons_succ]
      refine wpAnyH_take (i := 4) (oi := { dst := some 21, op := Op.binOp BinOp.neq 9 (Operand.tmp 18) (Operand.tmp 20) 9, type := 4, pos := "law.go:69", after := #[{ on := 1, ground := Ground.data }, { on := 3, ground := Ground.data }], guard := none }) (v := ?_) rfl (by kernel_rfl) (by kernel_rfl) (by kernel_rfl) (fun _ _ _ h => h) (Or.inl ⟨by rfl, ?_⟩) (by assumption) ?_
      rotate_left 1
      · (intro w hSw; (try dsimp only at hSw); go_simp; (try with_reducible rfl))
      try simp only [Act.put, List.setIfInBounds_toArray, List.set_cons_zero, List.set_cons_succ]
      refine wpAnyH_done (by kernel_rfl) ?_ _
      go_wp2_with (go_at_call 5; (with_reducible refine (HAw.out _ B5.out).mono ?_); rintro e w6 ⟨rfl, b6⟩; have B6 := Lib.hid (B5.out.trans (b6.mono B5.out.size)))
      go_ret
      exact ⟨rfl, HB.out.trans (B6.out.mono HB.out.size)⟩
    | some q =>
      obtain ⟨path, z⟩ := q
      obtain ⟨hz, hpl, hps⟩ : z ≠ 0 ∧ path.length ≤ 20 ∧ ∀ x ∈ path, x.size ≤ 1000 := conf_some25 ho
      rw [ho] at HCk HRc
      have HRc : Hid (∀ W, Below (w.alloc (.cells c.row 30)).heap.size (w.alloc (.cells c.row 30)) W → Calls Tryz.prog 7 #[.agg c.row] W fun e w' => e = .returned (.tuple #[.int .i64 z, .string (atP path)]) ∧ Below W.heap.size W w') := HRc
      have HCk : Hid (∀ W, Below (w.alloc (.cells c.row 30)).heap.size (w.alloc (.cells c.row 30)) W → Calls Tryz.prog 6 #[.agg c.row] W fun e w' => ∃ t u, e = .returned (.iface t u) ∧ ErrAt w' (.iface t u) path (some z) ∧ Below W.heap.size W w') := fun W hW => (HCk.out W hW).mono fun e w' ⟨v, h1, h2, h3⟩ => by
        obtain ⟨t, u, rfl, he⟩ := h2
        exact ⟨t, u, h1, he, h3⟩
      have HWr : Hid (∀ (W : World) (t : TypeId) (u : Value), Below (w.alloc (.cells c.row 30)).heap.size (w.alloc (.cells c.row 30)) W → ErrAt W (.iface t u) path (some z) → Calls Tryz.prog 10 #[.iface t u, .agg #[.int .i64 z, .string (atP path)]] W fun r w' => r = .returned (.bool true) ∧ Below W.heap.size W w') := fun W t u hW he => by
        have hw := wrong_any (n := some z) ((hTy.later hb).later hW) he hpl hps
        exact hw
      have qz : (z == 0) = false := by simpa using hz
      clear hTy hT h h8 hm hr g0 g1 g2 hN hb hf hs HFw ho hz hpl hps
      generalize atP path = S at *
      go_enter Tryz.func3, Tryz.ntmps3
      go_upto_region 5 with (first
        | (refine wpList_load_row rfl 30 _ rfl w.heap.size rfl 30 c.row (0, 0) _ (by exact HBx.out _ B2.out) Tryz.underlying30 rfl (by exact sizeConfH) ?_)
        | (refine wpList_load_row rfl 30 _ rfl w.heap.size rfl 30 c.row (0, 0) _ (by exact HBx.out _ B1.out) Tryz.underlying30 rfl (by exact sizeConfH) ?_)
        | (refine wpList_load_row rfl 30 _ rfl w.heap.size rfl 30 c.row (0, 0) _ (by exact HBx.out _ BR.out) Tryz.underlying30 rfl (by exact sizeConfH) ?_)
        | (go_at_call 4; (with_reducible refine HF.out.mono ?_); rintro e w1 ⟨rfl, b1⟩; have B1 := Lib.hid b1; clear b1)
        | (go_at_call 6; (with_reducible refine (HCk.out _ B1.out).mono ?_); rintro e w2 ⟨et, eu, rfl, x2, b2⟩; have X2 := Lib.hid x2; have B2 := Lib.hid (B1.out.trans (b2.mono B1.out.size)); clear b2 x2)
        | (go_at_call 7; (with_reducible refine (HRc.out _ B2.out).mono ?_); rintro e w3 ⟨rfl, b3⟩; have B3 := Lib.hid (B2.out.trans (b3.mono B2.out.size)); have X3 := Lib.hid (X2.out.later b3); clear b3))
      have B3d := Lib.hid (B3.out.trans (Below.refl _ _).drew)
      refine wp_region_held_drew (S := fun W => W.heap[w.heap.size]? = some (.cells c.row 30 (0, 0))) (by kernel_rfl) ?_ (fun hHeld => ?_)
      · exact HBx.out _ B3d.out
      refine wpAnyH_take (i := 0) (oi := { dst := some 17, op := Op.load 30 (Operand.tmp 1), type := 30, pos := "law.go:69", after := #[], guard := none }) (v := .agg c.row) rfl (by kernel_rfl) (by kernel_rfl) (by kernel_rfl) (fun _ _ _ h => h) (yields_row25c (by rfl) 30 _ rfl w.heap.size rfl 30 c.row (0, 0) _ (fun _ h => h) Tryz.underlying30 rfl sizeConfH) (by assumption) ?_
      try simp only [Act.put, List.setIfInBounds_toArray, List.set_cons_zero, List.set_cons_succ]
      refine wpAnyH_take (i := 2) (oi := { dst := some 19, op := Op.load 30 (Operand.tmp 1), type := 30, pos := "law.go:69", after := #[], guard := none }) (v := .agg c.row) rfl (by kernel_rfl) (by kernel_rfl) (by kernel_rfl) (fun _ _ _ h => h) (yields_row25c (by rfl) 30 _ rfl w.heap.size rfl 30 c.row (0, 0) _ (fun _ h => h) Tryz.underlying30 rfl sizeConfH) (by assumption) ?_
      try simp only [Act.put, List.setIfInBounds_toArray, List.set_cons_zero, List.set_cons_succ]
      refine wpAnyH_ready (rs := [1]) (by kernel_rfl) (by simp) ?_
      refine AllReadyH.cons (o := { dst := some 18, op := Op.call { callee := Callee.value (Operand.func 8), args := #[Operand.tmp 17], argTypes := #[30] }, type := 9, pos := "law.go:69", after := #[{ on := 0, ground := Ground.data }], guard := none }) rfl (fun K hK => ?_) AllReadyH.nil
      go_simp
      go_at_call 8
      with_reducible refine (HVp.out _ B3d.out).mono ?_
      rintro e w4 ⟨rfl, b4⟩
      have B4 := Lib.hid (B3d.out.trans (b4.mono B3d.out.size))
      have Y4 := Lib.hid ((Below.refl _ _).drew.trans b4)
      clear b4
      go_wp2_with fail
      refine hK.out _ _ ?_ (fun hHeld => ?_)
      · exact HBx.out _ B4.out
      clear hK K
      try simp only [Act.put, List.setIfInBounds_toArray, List.set_cons_zero, List.set_cons_succ]
      refine wpAnyH_ready (rs := [3]) (by kernel_rfl) (by simp) ?_
      refine AllReadyH.cons (o := { dst := some 20, op := Op.call { callee := Callee.value (Operand.func 9), args := #[Operand.tmp 19], argTypes := #[30] }, type := 9, pos := "law.go:69", after := #[{ on := 2, ground := Ground.data }, { on := 1, ground := Ground.chain }], guard := none }) rfl (fun K hK => ?_) AllReadyH.nil
      go_simp
      go_at_call 9
      with_reducible refine (HVr.out _ B4.out).mono ?_
      rintro e w5 ⟨rfl, b5⟩
      have B5 := Lib.hid (B4.out.trans (b5.mono B4.out.size))
      have Y5 := Lib.hid (Y4.out.trans (b5.mono Y4.out.size))
      clear b5
      go_wp2_with fail
      refine hK.out _ _ ?_ (fun hHeld => ?_)
      · exact HBx.out _ B5.out
      clear hK K
      try simp only [Act.put, List.setIfInBounds_toArray, List.set_cons_zero, List.set_cons_succ]
      refine wpAnyH_take (i := 4) (oi := { dst := some 21, op := Op.binOp BinOp.neq 9 (Operand.tmp 18) (Operand.tmp 20) 9, type := 4, pos := "law.go:69", after := #[{ on := 1, ground := Ground.data }, { on := 3, ground := Ground.data }], guard := none }) (v := ?_) rfl (by kernel_rfl) (by kernel_rfl) (by kernel_rfl) (fun _ _ _ h => h) (Or.inl ⟨by rfl, ?_⟩) (by assumption) ?_
      rotate_left 1
      · (intro w hSw; (try dsimp only at hSw); go_simp; (try with_reducible rfl))
      try simp only [Act.put, List.setIfInBounds_toArray, List.set_cons_zero, List.set_cons_succ]
      refine wpAnyH_done (by kernel_rfl) ?_ _
      have X5 := Lib.hid (X3.out.later Y5.out)
      go_wp2_with (first
        | (go_at_call 5; (with_reducible refine (HAw.out _ B5.out).mono ?_); rintro e w6 ⟨rfl, b6⟩; have B6 := Lib.hid (B5.out.trans (b6.mono B5.out.size)); have X6 := Lib.hid (X5.out.later b6); clear b6)
        | (go_at_call 10; (with_reducible refine (HWr.out _ _ _ B6.out X6.out).mono ?_); rintro e w7 ⟨rfl, b7⟩; have B7 := Lib.hid (B6.out.trans (b7.mono B6.out.size))))
      go_ret
      exact ⟨rfl, HB.out.trans (B7.out.mono HB.out.size)⟩
  · have HF : Hid (Calls Tryz.prog 4 #[.agg c.row] (w.alloc (.cells c.row 30)) fun e w' => e = .returned (.bool false) ∧ Below (w.alloc (.cells c.row 30)).heap.size (w.alloc (.cells c.row 30)) w') := HFw.mono fun e w' ⟨z, h1, h2, h3⟩ => ⟨by
      rw [h1]
      cases z with
      | false => rfl
      | true => exact absurd (h2.1 rfl) hf, h3⟩
    clear hTy hT h h8 hm hr g0 g1 g2 hN hb hf HFw
    go_enter Tryz.func3, Tryz.ntmps3
    go_wp2_with (first
      | (refine wpList_load_row rfl 30 _ rfl w.heap.size rfl 30 c.row (0, 0) _ (by exact HBx.out _ BR.out) Tryz.underlying30 rfl (by exact sizeConfH) ?_)
      | (go_at_call 4; (with_reducible refine HF.out.mono ?_); rintro e w1 ⟨rfl, b1⟩; have B1 := Lib.hid b1)
      | (go_at_call 5; (with_reducible refine (HAw.out _ B1.out).mono ?_); rintro e w2 ⟨rfl, b2⟩))
    go_ret
    exact ⟨rfl, HB.out.trans ((B1.out.trans (b2.mono B1.out.size)).mono HB.out.size)⟩
end Go.Proofs.YtkdljicagepebaaGreatDoor
