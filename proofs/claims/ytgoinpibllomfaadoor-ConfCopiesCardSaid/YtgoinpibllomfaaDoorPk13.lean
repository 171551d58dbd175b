/- Part 13 of what the statement wants. -/
import Derived.Test.YtgoinpibllomfaaDoorPk03
import Derived.Test.YtgoinpibllomfaaDoorPk05
import Derived.Test.YtgoinpibllomfaaDoorPk08
import Derived.Test.YtgoinpibllomfaaDoorPk12
namespace Go.Proofs.YtgoinpibllomfaaDoor
open Go.RowKit

def ownS25 : ByteArray := ⟨#[111, 119, 110]⟩
def peerS25 : ByteArray := ⟨#[112, 101, 101, 114]⟩
def userS25 : ByteArray := ⟨#[117, 115, 101, 114]⟩
def keysS25 : ByteArray := ⟨#[107, 101, 121, 115]⟩
def wishS25 : ByteArray := ⟨#[119, 105, 115, 104]⟩
def confS25 : ByteArray := ⟨#[99, 111, 110, 102]⟩
/-- What is wrong with preferences. -/
def prefsO (p : Nat → List (List UInt8)) : Option (List ByteArray × Int) := ((List.range 8).find? fun j => oneP j (p j) != 0).map fun (m : Nat) => ([prefsS, bs (wordZ (m : Int))], oneP m (p m))
def gateO (l : List GrantR) (al : List (List UInt8)) (lim : Int) : Option (List ByteArray × Int) := if gateZ l al lim = 0 then none else some ([denyS, gateS (gateI l al lim)], gateZ l al lim)
theorem prefsO_ok {p : Nat → List (List UInt8)} (h : ∀ j < 8, oneP j (p j) = 0) : prefsO p = none := by
  unfold prefsO
  rw [List.find?_eq_none.2 (fun x hx => by rw [h x (List.mem_range.1 hx)]; decide)]
  rfl
theorem prefsO_bad {p : Nat → List (List UInt8)} {m : Nat} (h : BadAt p m) : prefsO p = some ([prefsS, bs (wordZ m)], oneP m (p m)) := by
  unfold prefsO
  rw [List.find?_range_eq_some.2 ⟨by simpa using h.2.2, List.mem_range.2 h.1, fun j hj => by rw [h.2.1 j hj]; decide⟩]
  rfl
theorem pfCheck_said {w : World} (hT : Tab15 w) {u : Nat → Value} {p : Nat → List (List UInt8)} (h : ∀ k < 8, TextsAt w (u k) ((p k).map bs)) (hs : ∀ k < 8, (p k).length ≤ 1000 ∧ ∀ x ∈ p k, x.length ≤ 10000) :
    Calls Tryd.prog 61 #[agg8 u] w (Checked w (prefsO p)) := by
  have hz : Sized15 p := fun k hk => ⟨Nat.le_trans (hs k hk).1 (by unfold maxLen; omega), fun x hx => Nat.le_trans ((hs k hk).2 x hx) (by omega)⟩
  rcases bad_or p with hok | ⟨m, hb⟩
  · rw [prefsO_ok hok]
    refine (pfCheck_walk hT h hz (Nat.le_refl 8) hok (fun h => absurd h (by omega))).mono fun e w' ⟨hbl, hc⟩ => ?_
    rcases hc with ⟨_, he⟩ | ⟨h, _⟩
    · exact ⟨_, he, rfl, hbl⟩
    · omega
  · rw [prefsO_bad hb]
    refine (pfCheck_walk hT h hz (Nat.le_of_lt hb.1) hb.2.1 (fun _ => hb.2.2)).mono fun e w' ⟨hbl, hc⟩ => ?_
    rcases hc with ⟨h, _⟩ | ⟨_, t, v, he, ha⟩
    · have := hb.1; omega
    · exact ⟨_, he, ⟨t, v, rfl, ha⟩, hbl⟩
theorem dCheck_said {w : World} {vg va : Value} {l : List GrantR} {al : List (List UInt8)} (hg : GrantsAt w vg l) (hsg : l.length ≤ 1000 ∧ ∀ x ∈ l, x.user.length ≤ 10000) (ha : TextsAt w va (al.map bs)) (hsa : al.length ≤ 1000 ∧ ∀ x ∈ al, x.length ≤ 10000) (lim : Int) :
    Calls Tryd.prog 10 #[vg, va, .int .i64 lim] w (Checked w (gateO l al lim)) := by
  refine (dCheck_any hg (Nat.le_trans hsg.1 (by unfold maxLen; omega)) (fun x hx => Nat.le_trans (hsg.2 x hx) (by omega)) ha (Nat.le_trans hsa.1 (by unfold maxLen; omega)) (fun x hx => Nat.le_trans (hsa.2 x hx) (by omega)) lim).mono ?_
  rintro e w' ⟨v, rfl, hs, hb⟩
  refine ⟨v, rfl, ?_, hb⟩
  unfold gateO
  rcases hs with ⟨h, rfl⟩ | ⟨h, t, u, rfl, he⟩
  · rw [if_pos h]
    exact rfl
  · rw [if_neg h]
    exact ⟨t, u, rfl, he⟩

set_option maxRecDepth 100000 in
theorem cfCkVersion_any {w : World} {c : CfV} {d : CfL} (h : CfAt w c d) (hs : CfSized d) : Calls Tryd.prog 59 #[.agg c.row] w (Checked w (unlessP (lnOk d.so d.co) versionS 1)) := by
  have HM : Hid (∀ W : World, Calls Tryd.prog 79 #[.string c.so, .string c.co] W fun e w' => e = .returned (.tuple #[.string (bs (lnMake d.so d.co)), .int .i64 (lnErr d.so d.co : Int)]) ∧ Below W.heap.size W w') := fun W => by
    rw [h.so, h.co]
    exact lnMake_any d.so d.co hs.so hs.co W
  have hb : Below w.heap.size w (w.alloc (.cells c.row 51)) := (Below.refl _ _).alloc (Nat.le_refl _) _
  have HB := Lib.hid hb
  unfold versionS
  cases ho : lnOk d.so d.co with
  | true =>
    have e2 := (lnMake_yes ho).2
    have HO : Hid (∀ W : World, Calls Tryd.prog 46 #[.string ⟨#[118, 101, 114, 115, 105, 111, 110]⟩, .int .i64 (lnErr d.so d.co : Int)] W fun r w' => r = .returned .nilIface ∧ w' = W) := fun W => by
      rw [e2]
      exact fOf_zero _ W
    clear h hs ho e2 hb
    generalize (lnErr d.so d.co : Int) = z at *
    generalize bs (lnMake d.so d.co) = S at *
    unfold CfV.row at *
    go_enter Tryd.func59, Tryd.ntmps59
    go_wp2_with (first
      | (go_at_call 79; (with_reducible refine (HM.out _).mono ?_); rintro r w1 ⟨rfl, b1⟩)
      | (go_at_call 46; (with_reducible refine (HO.out _).mono ?_); rintro r w2 ⟨rfl, hw⟩; have hw := hw.symm; subst hw))
    go_ret
    exact ⟨_, rfl, rfl, HB.out.trans (b1.mono HB.out.size)⟩
  | false =>
    have e2 := (lnMake_no ho).2
    have HO : Hid (∀ W : World, Calls Tryd.prog 46 #[.string ⟨#[118, 101, 114, 115, 105, 111, 110]⟩, .int .i64 (lnErr d.so d.co : Int)] W fun r w' => ∃ t v, r = .returned (.iface t v) ∧ ErrAt w' (.iface t v) [⟨#[118, 101, 114, 115, 105, 111, 110]⟩] (some 1) ∧ Below W.heap.size W w') := fun W => by
      rw [e2]
      refine (fOf_any ⟨#[118, 101, 114, 115, 105, 111, 110]⟩ 1 (by decide) W).mono ?_
      rintro r w' ⟨v, rfl, he, hn, hb⟩
      cases he with
      | fault h1 h2 h3 h4 => exact ⟨_, _, rfl, .fault h1 h2 h3 h4, hb⟩
    clear h hs ho e2 hb
    generalize (lnErr d.so d.co : Int) = z at *
    generalize bs (lnMake d.so d.co) = S at *
    unfold CfV.row at *
    go_enter Tryd.func59, Tryd.ntmps59
    go_wp2_with (first
      | (go_at_call 79; (with_reducible refine (HM.out _).mono ?_); rintro r w1 ⟨rfl, b1⟩)
      | (go_at_call 46; (with_reducible refine (HO.out _).mono ?_); rintro r w2 ⟨t, v, rfl, he, b2⟩))
    go_ret
    have b3 := HB.out.trans (b1.mono HB.out.size)
    exact ⟨_, rfl, ⟨t, v, rfl, he⟩, b3.trans (b2.mono b3.size)⟩

section
variable {W : World} {B : Nat} {c : CfV} {d : CfL}
theorem sizeConf25 (c : CfV) : (Tryd.prog.info? 51).map (·.size) = some c.row.size := by kernel_rfl
set_option maxHeartbeats 1000000 in
set_option maxRecDepth 100000 in
theorem cfC1_any (h : CfAt W c d) (hs : CfSized d) (hB : Holds W B 51 c.row) : Calls Tryd.prog 58 #[.pointer (some ⟨B, 0, none⟩)] W (Checked W (unlessP (lnOk d.so d.co) versionS 1)) := by
  have HV := Lib.hid (cfCkVersion_any h hs)
  have hsz := sizeConf25 c
  generalize unlessP (lnOk d.so d.co) versionS 1 = o at *
  clear h hs
  obtain ⟨R, hR⟩ : ∃ R, R = c.row := ⟨_, rfl⟩
  rw [← hR] at HV hB hsz
  clear hR
  go_enter Tryd.func58, Tryd.ntmps58
  go_wp2_with (first
    | (go_at_call 59; (with_reducible refine HV.out.mono ?_); rintro r w1 ⟨v, rfl, hv, b1⟩)
    | (refine wpList_load_row rfl 51 _ rfl B rfl 51 _ (0, 0) _ hB Tryd.underlying51 rfl hsz ?_))
  go_ret
  exact ⟨v, rfl, hv, b1⟩
set_option maxHeartbeats 1000000 in
set_option maxRecDepth 100000 in
theorem cfC2_any (hT : Tab15 W) (h : CfAt W c d) (hs : CfSized d) (hB : Holds W B 51 c.row) : Calls Tryd.prog 60 #[.pointer (some ⟨B, 0, none⟩)] W (Checked W (prefsO d.p)) := by
  have HV : Hid (Calls Tryd.prog 61 #[.agg #[.slice c.a0 c.n0 c.c0, .slice c.a1 c.n1 c.c1, .slice c.a2 c.n2 c.c2, .slice c.a3 c.n3 c.c3, .slice c.a4 c.n4 c.c4, .slice c.a5 c.n5 c.c5, .slice c.a6 c.n6 c.c6, .slice c.a7 c.n7 c.c7]] W (Checked W (prefsO d.p))) := by
    have e : agg8 c.u = .agg #[.slice c.a0 c.n0 c.c0, .slice c.a1 c.n1 c.c1, .slice c.a2 c.n2 c.c2, .slice c.a3 c.n3 c.c3, .slice c.a4 c.n4 c.c4, .slice c.a5 c.n5 c.c5, .slice c.a6 c.n6 c.c6, .slice c.a7 c.n7 c.c7] := rfl
    show Calls _ _ _ _ _
    rw [← e]
    exact pfCheck_said hT h.pf hs.p
  have x0 := hB.cell 3
  have x1 := hB.cell 4
  have x2 := hB.cell 5
  have x3 := hB.cell 6
  have x4 := hB.cell 7
  have x5 := hB.cell 8
  have x6 := hB.cell 9
  have x7 := hB.cell 10
  change W.cell? ⟨B, 3, none⟩ = some (.slice c.a0 c.n0 c.c0) at x0
  change W.cell? ⟨B, 4, none⟩ = some (.slice c.a1 c.n1 c.c1) at x1
  change W.cell? ⟨B, 5, none⟩ = some (.slice c.a2 c.n2 c.c2) at x2
  change W.cell? ⟨B, 6, none⟩ = some (.slice c.a3 c.n3 c.c3) at x3
  change W.cell? ⟨B, 7, none⟩ = some (.slice c.a4 c.n4 c.c4) at x4
  change W.cell? ⟨B, 8, none⟩ = some (.slice c.a5 c.n5 c.c5) at x5
  change W.cell? ⟨B, 9, none⟩ = some (.slice c.a6 c.n6 c.c6) at x6
  change W.cell? ⟨B, 10, none⟩ = some (.slice c.a7 c.n7 c.c7) at x7
  generalize prefsO d.p = o at *
  clear h hs hB hT
  go_enter Tryd.func60, Tryd.ntmps60
  go_wp2_with (go_at_call 61; (with_reducible refine HV.out.mono ?_); rintro r w1 ⟨v, rfl, hv, b1⟩)
  go_ret
  exact ⟨v, rfl, hv, b1⟩
theorem ids_one {w : World} {b : Nat} {t : TypeId} {z : Int} (h : Holds w b t #[.int .i64 z]) : IdsAt w (.slice (some ⟨b, 0, none⟩) 1 1) [z] := ⟨_, _, rfl, fun _ => ⟨_, 0, rfl, h.lt, fun k x hk => by
  match k, hk with
  | 0, hk => obtain rfl := (Option.some.inj hk).symm; exact h.cell 0
  | k + 1, hk => simp at hk⟩⟩
theorem who_one (z : Int) : [z].all whoB = whoB z := by simp
set_option maxRecDepth 100000 in
theorem cfC3_any (hB : Holds W B 51 c.row) : Calls Tryd.prog 62 #[.pointer (some ⟨B, 0, none⟩)] W (Checked W (unlessP (whoB c.ow) ownS25 5)) := by
  have HP : Hid (Calls Tryd.prog 63 #[.string ⟨#[111, 119, 110]⟩, .slice (some ⟨W.heap.size, 0, none⟩) 1 1] (W.alloc (.cells #[.int .i64 c.ow] 3)) (Checked (W.alloc (.cells #[.int .i64 c.ow] 3)) (unlessP (whoB c.ow) ownS25 5))) := by
    have := cfPeople_any (ids_one (Holds.new W 3 #[.int .i64 c.ow])) (by simp) ownS25
    rw [who_one] at this
    exact this
  have HB0 : Hid (Below W.heap.size W (W.alloc (.cells #[.int .i64 c.ow] 3))) := (Below.refl _ _).alloc (Nat.le_refl _) _
  have x0 : W.cell? ⟨B, 12, none⟩ = some (.int .i64 c.ow) := hB.cell 12
  generalize unlessP (whoB c.ow) ownS25 5 = o at *
  clear hB
  go_enter Tryd.func62, Tryd.ntmps62
  go_wp2_with (go_at_call 63; (with_reducible refine HP.out.mono ?_); rintro r w1 ⟨v, rfl, hv, b1⟩)
  go_ret
  exact ⟨v, rfl, hv, HB0.out.trans (b1.mono HB0.out.size)⟩
set_option maxRecDepth 100000 in
theorem cfC4_any (h : CfAt W c d) (hs : CfSized d) (hB : Holds W B 51 c.row) : Calls Tryd.prog 64 #[.pointer (some ⟨B, 0, none⟩)] W (Checked W (gateO d.gr d.al c.li)) := by
  have HV := Lib.hid (dCheck_said h.gr hs.gr h.al hs.al c.li)
  have x0 : W.cell? ⟨B, 13, none⟩ = some (.slice c.ag c.ng c.cg) := hB.cell 13
  have x1 : W.cell? ⟨B, 11, none⟩ = some (.slice c.aa c.na c.ca) := hB.cell 11
  have x2 : W.cell? ⟨B, 14, none⟩ = some (.int .i64 c.li) := hB.cell 14
  generalize gateO d.gr d.al c.li = o at *
  clear h hs hB
  go_enter Tryd.func64, Tryd.ntmps64
  go_wp2_with (go_at_call 10; (with_reducible refine HV.out.mono ?_); rintro r w1 ⟨v, rfl, hv, b1⟩)
  go_ret
  exact ⟨v, rfl, hv, b1⟩
set_option maxRecDepth 100000 in
theorem cfC5_any (hB : Holds W B 51 c.row) : Calls Tryd.prog 65 #[.pointer (some ⟨B, 0, none⟩)] W (Checked W (unlessP (whoB c.pe) peerS25 5)) := by
  have HP : Hid (Calls Tryd.prog 63 #[.string ⟨#[112, 101, 101, 114]⟩, .slice (some ⟨W.heap.size, 0, none⟩) 1 1] (W.alloc (.cells #[.int .i64 c.pe] 3)) (Checked (W.alloc (.cells #[.int .i64 c.pe] 3)) (unlessP (whoB c.pe) peerS25 5))) := by
    have := cfPeople_any (ids_one (Holds.new W 3 #[.int .i64 c.pe])) (by simp) peerS25
    rw [who_one] at this
    exact this
  have HB0 : Hid (Below W.heap.size W (W.alloc (.cells #[.int .i64 c.pe] 3))) := (Below.refl _ _).alloc (Nat.le_refl _) _
  have x0 : W.cell? ⟨B, 15, none⟩ = some (.int .i64 c.pe) := hB.cell 15
  generalize unlessP (whoB c.pe) peerS25 5 = o at *
  clear hB
  go_enter Tryd.func65, Tryd.ntmps65
  go_wp2_with (go_at_call 63; (with_reducible refine HP.out.mono ?_); rintro r w1 ⟨v, rfl, hv, b1⟩)
  go_ret
  exact ⟨v, rfl, hv, HB0.out.trans (b1.mono HB0.out.size)⟩
set_option maxRecDepth 100000 in
theorem cfC6_any (h : CfAt W c d) (hs : CfSized d) (hB : Holds W B 51 c.row) : Calls Tryd.prog 66 #[.pointer (some ⟨B, 0, none⟩)] W (Checked W (unlessP (userP d.us) userS25 3)) := by
  have HU : Hid (Calls Tryd.prog 8 #[.string c.us] W fun e w' => e = .returned (.bool (userP d.us)) ∧ w' = W) := by
    rw [h.us]
    exact dUser_any d.us (by have := hs.us; omega) W
  have HN : Hid (∀ W1, Calls Tryd.prog 67 #[.bool (userP d.us), .string ⟨#[117, 115, 101, 114]⟩, .int .i64 3] W1 (Checked W1 (unlessP (userP d.us) userS25 3))) := fun W1 => cfUnless_any _ userS25 3 (by decide) W1
  have x0 : W.cell? ⟨B, 16, none⟩ = some (.string c.us) := hB.cell 16
  generalize unlessP (userP d.us) userS25 3 = o at *
  generalize userP d.us = m at *
  clear h hs hB
  go_enter Tryd.func66, Tryd.ntmps66
  go_wp2_with (first
    | (go_at_call 8; (with_reducible refine HU.out.mono ?_); rintro r w1 ⟨rfl, hw⟩; have hw := hw.symm; subst hw)
    | (go_at_call 67; (with_reducible refine (HN.out _).mono ?_); rintro r w2 ⟨v, rfl, hv, b2⟩))
  go_ret
  exact ⟨v, rfl, hv, b2⟩
set_option maxRecDepth 100000 in
theorem cfC7_any (h : CfAt W c d) (hs : CfSized d) (hB : Holds W B 51 c.row) : Calls Tryd.prog 68 #[.pointer (some ⟨B, 0, none⟩)] W (Checked W (unlessP (decide (d.ks.length ≤ 8)) keysS25 2)) := by
  have hn : c.nk = d.ks.length := by
    obtain ⟨a, q, e, _⟩ := h.ks
    injection e
  have hle := hs.ks
  obtain ⟨m, hm⟩ : ∃ m, m = decide (d.ks.length ≤ 8) := ⟨_, rfl⟩
  have qn : decide ((c.nk : Int) ≤ 8) = m := by
    rw [hm, hn]
    exact decide_eq_decide.2 (by omega)
  rw [← hm]
  have HN : Hid (∀ W1, Calls Tryd.prog 67 #[.bool m, .string ⟨#[107, 101, 121, 115]⟩, .int .i64 2] W1 (Checked W1 (unlessP m keysS25 2))) := fun W1 => cfUnless_any _ keysS25 2 (by decide) W1
  have x0 : W.cell? ⟨B, 17, none⟩ = some (.slice c.ak c.nk c.ck) := hB.cell 17
  generalize unlessP m keysS25 2 = o at *
  rw [← hn] at hle
  clear h hs hB hm hn
  go_enter Tryd.func68, Tryd.ntmps68
  go_wp2_with (go_at_call 67; (with_reducible refine (HN.out _).mono ?_); rintro r w2 ⟨v, rfl, hv, b2⟩)
  go_ret
  exact ⟨v, rfl, hv, b2⟩
set_option maxRecDepth 100000 in
theorem cfC8_any (h : CfAt W c d) (hs : CfSized d) (hB : Holds W B 51 c.row) : Calls Tryd.prog 69 #[.pointer (some ⟨B, 0, none⟩)] W (Checked W (unlessP (d.ks.all whoB) keysS25 5)) := by
  have HP : Hid (Calls Tryd.prog 63 #[.string ⟨#[107, 101, 121, 115]⟩, .slice c.ak c.nk c.ck] W (Checked W (unlessP (d.ks.all whoB) keysS25 5))) := cfPeople_any h.ks hs.ks keysS25
  have x0 : W.cell? ⟨B, 17, none⟩ = some (.slice c.ak c.nk c.ck) := hB.cell 17
  generalize unlessP (d.ks.all whoB) keysS25 5 = o at *
  clear h hs hB
  go_enter Tryd.func69, Tryd.ntmps69
  go_wp2_with (go_at_call 63; (with_reducible refine HP.out.mono ?_); rintro r w1 ⟨v, rfl, hv, b1⟩)
  go_ret
  exact ⟨v, rfl, hv, b1⟩
set_option maxRecDepth 100000 in
theorem cfC9_any (h : CfAt W c d) (hs : CfSized d) (hB : Holds W B 51 c.row) : Calls Tryd.prog 70 #[.pointer (some ⟨B, 0, none⟩)] W (Checked W (gateO [] d.al 1)) := by
  have HV := Lib.hid (dCheck_said (GrantsAt.nil W) (by simp) h.al hs.al 1)
  have x1 : W.cell? ⟨B, 11, none⟩ = some (.slice c.aa c.na c.ca) := hB.cell 11
  generalize gateO [] d.al 1 = o at *
  clear h hs hB
  go_enter Tryd.func70, Tryd.ntmps70
  go_wp2_with (go_at_call 10; (with_reducible refine HV.out.mono ?_); rintro r w1 ⟨v, rfl, hv, b1⟩)
  go_ret
  exact ⟨v, rfl, hv, b1⟩
set_option maxRecDepth 100000 in
theorem cfC10_any (hB : Holds W B 51 c.row) : Calls Tryd.prog 71 #[.pointer (some ⟨B, 0, none⟩)] W (Checked W (unlessP (rightB c.w0 c.w1 c.w2) wishS25 5)) := by
  have HU := Lib.hid (gxRight_any c.w0 c.w1 c.w2 W)
  have HN : Hid (∀ W1, Calls Tryd.prog 67 #[.bool (rightB c.w0 c.w1 c.w2), .string ⟨#[119, 105, 115, 104]⟩, .int .i64 5] W1 (Checked W1 (unlessP (rightB c.w0 c.w1 c.w2) wishS25 5))) := fun W1 => cfUnless_any _ wishS25 5 (by decide) W1
  have x0 : W.cell? ⟨B, 20, none⟩ = some (.int .u32 (c.w0 : Int)) := hB.cell 20
  have x1 : W.cell? ⟨B, 21, none⟩ = some (.int .u32 (c.w1 : Int)) := hB.cell 21
  have x2 : W.cell? ⟨B, 22, none⟩ = some (.int .u32 (c.w2 : Int)) := hB.cell 22
  generalize unlessP (rightB c.w0 c.w1 c.w2) wishS25 5 = o at *
  generalize rightB c.w0 c.w1 c.w2 = m at *
  generalize (c.w0 : Int) = z0 at *
  generalize (c.w1 : Int) = z1 at *
  generalize (c.w2 : Int) = z2 at *
  clear hB
  go_enter Tryd.func71, Tryd.ntmps71
  go_wp2_with (first
    | (go_at_call 72; (with_reducible refine HU.out.mono ?_); rintro r w1 ⟨rfl, hw⟩; have hw := hw.symm; subst hw)
    | (go_at_call 67; (with_reducible refine (HN.out _).mono ?_); rintro r w2 ⟨v, rfl, hv, b2⟩))
  go_ret
  exact ⟨v, rfl, hv, b2⟩
end
end Go.Proofs.YtgoinpibllomfaaDoor
