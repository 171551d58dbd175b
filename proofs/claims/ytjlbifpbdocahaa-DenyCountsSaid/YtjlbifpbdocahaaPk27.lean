/- Part 27 of what the statement wants. -/
import Derived.WalkMore
import Derived.Test.YtjlbifpbdocahaaPk03
import Derived.Test.YtjlbifpbdocahaaPk08
import Derived.Test.YtjlbifpbdocahaaPk09
import Derived.Test.YtjlbifpbdocahaaPk25
import Derived.Test.YtjlbifpbdocahaaPk26
namespace Go.Proofs.Ytjlbifpbdocahaa
open Go.RowKit

theorem mem_bs24 {x : List UInt8} {l : List (List UInt8)} : bs x ∈ l.map bs ↔ x ∈ l := by
  rw [List.mem_map]
  exact ⟨fun ⟨y, hy, e⟩ => by rw [← bs_inj e]; exact hy, fun h => ⟨x, h, rfl⟩⟩
def oneG (u : List UInt8) (who : Int) (x : GrantR) : Bool := decide (x.user = u) && decide (x.who = who)
def grantedP (l : List GrantR) (u : List UInt8) (who : Int) : Bool := l.any (oneG u who)
def hasP (l : List GrantR) (al : List (List UInt8)) (u g t : List UInt8) : Bool := decide (g ∈ al) && (ownerP t).2 && grantedP l u (ownerP t).1
theorem granted_miss {l : List GrantR} {u : List UInt8} {who : Int} (h : ∀ x ∈ l, oneG u who x = false) : grantedP l u who = false := by
  unfold grantedP
  rw [List.any_eq_false]
  intro x hx e
  rw [h x hx] at e
  cases e
theorem granted_hit {l : List GrantR} {u : List UInt8} {who : Int} {x : GrantR} (hx : x ∈ l) (h : oneG u who x = true) : grantedP l u who = true := by
  unfold grantedP
  rw [List.any_eq_true]
  exact ⟨x, hx, h⟩
theorem oneG_take {l : List GrantR} {u : List UInt8} {who : Int} {k : Nat} (hk : k < l.length) (h : ∀ x ∈ l.take k, oneG u who x = false) (hx : oneG u who l[k] = false) : ∀ x ∈ l.take (k + 1), oneG u who x = false := fun x hm => by
  rw [List.take_succ_eq_append_getElem hk, List.mem_append] at hm
  rcases hm with hm | hm
  · exact h x hm
  · simp at hm
    rw [hm]; exact hx

set_option maxHeartbeats 1000000 in
set_option maxRecDepth 100000 in
theorem dGranted_any {w : World} {v : Value} {l : List GrantR} (h : GrantsAt w v l) (hl : l.length ≤ maxLen) (u : List UInt8) (who : Int) :
    Calls Try.prog 50 #[v, .string (bs u), .int .i64 who] w fun e w' => e = .returned (.bool (grantedP l u who)) ∧ Below w.heap.size w w' := by
  obtain ⟨ao, cap, rfl, hc⟩ := h
  unfold maxLen at hl
  have HM : Hid ((∀ x ∈ l, oneG u who x = false) → grantedP l u who = false) := granted_miss
  have HH : Hid (∀ x ∈ l, oneG u who x = true → grantedP l u who = true) := fun x hx => granted_hit hx
  have HC := Lib.hid hc
  clear hc
  generalize grantedP l u who = z at *
  go_enter Try.func50, Try.ntmps50
  go_wp2_with fail
  go_step3
  go_wp2_with fail
  go_step3
  go_wp2_with fail
  go_loopw [7, 12] (fun z0 i wr => ∃ k : Nat, k ≤ l.length ∧ z0 = .bool false ∧ i = .int .i64 k ∧ (∀ x ∈ l.take k, oneG u who x = false) ∧ Below w.heap.size w wr) (fun _ i _ => l.length - (intOf i).toNat)
  case atStart => exact ⟨0, Nat.zero_le _, rfl, rfl, by simp, Below.refl _ _⟩
  case round =>
    obtain ⟨k, hk, rfl, rfl, htk, hbel⟩ := hrel
    by_cases hlt : k < l.length
    · obtain ⟨b, off, rfl, hb, hcell⟩ := HC.out (by intro h; simp [h] at hlt)
      obtain ⟨x, hx⟩ : ∃ x, x = l[k] := ⟨_, rfl⟩
      obtain ⟨g1, g2⟩ := hcell k x (by rw [hx]; exact List.getElem?_eq_getElem hlt)
      have c1 := (hbel.cell (p := ⟨b, off + k * 2, none⟩) hb).trans g1
      have c2 := (hbel.cell (p := ⟨b, off + k * 2 + 1, none⟩) hb).trans g2
      have HN : Hid (oneG u who x = false → ∀ y ∈ l.take (k + 1), oneG u who y = false) := fun e => oneG_take hlt htk (by rw [← hx]; exact e)
      have HT : Hid (oneG u who x = true → z = true) := HH.out x (by rw [hx]; exact List.getElem_mem hlt)
      have HO : Hid (oneG u who x = (decide (x.user = u) && decide (x.who = who))) := rfl
      have HB := Lib.hid hbel
      clear hcell htk hx hbel g1 g2 HC HM HH
      generalize oneG u who x = z1 at *
      by_cases hu : x.user = u
      · have qu := same_yes (congrArg bs hu)
        have qu2 : ((bs x.user).toList != (bs u).toList) = false := by rw [bne, qu]; rfl
        rw [decide_eq_true hu] at HO
        clear hu
        generalize bs x.user = X at *
        generalize bs u = U at *
        generalize x.who = y at *
        by_cases hw : y = who
        · have HF := Lib.hid (HT.out (by rw [HO.out, decide_eq_true hw]; rfl))
          subst hw
          have qw : (y == y) = true := by simp
          clear HN HT HO
          go_wp2_with fail
          try rw [Exit.noGoto_ret]
          go_ret
          exact ⟨by rw [HF.out]; rfl, HB.out.alloc HB.out.size _⟩
        · have HF := Lib.hid (HN.out (by rw [HO.out, decide_eq_false hw]; rfl))
          have qw : (y == who) = false := by simpa using hw
          clear HN HT HO hw
          go_wp2_with fail
          go_roundw
          case rel => exact ⟨k + 1, by omega, rfl, by go_num, HF.out, HB.out.alloc HB.out.size _⟩
          case measure => simp [intOf]; omega
      · have qu := same_no (fun e => hu (bs_inj e))
        have qu2 : ((bs x.user).toList != (bs u).toList) = true := by rw [bne, qu]; rfl
        have HF := Lib.hid (HN.out (by rw [HO.out, decide_eq_false hu]; rfl))
        clear hu HN HT HO
        generalize bs x.user = X at *
        generalize bs u = U at *
        generalize x.who = y at *
        go_wp2_with fail
        go_roundw
        case rel => exact ⟨k + 1, by omega, rfl, by go_num, HF.out, HB.out.alloc HB.out.size _⟩
        case measure => simp [intOf]; omega
    · have hkl : k = l.length := by omega
      subst hkl
      rw [List.take_length] at htk
      have HF := Lib.hid (HM.out htk)
      clear htk hlt HC HM HH
      go_wp2_with fail
      try rw [Exit.noGoto_ret]
      go_ret
      exact ⟨by rw [HF.out]; rfl, hbel⟩

section
variable {B A n : Nat} {w0 W : World} {P : List (Int × List UInt8)}
set_option maxHeartbeats 1000000 in
set_option maxRecDepth 100000 in
/-- Has, over what Owner says. -/
theorem dHas_owner {g : Nat} {l : List GrantR} {al : List (List UInt8)} {lim m : Int} (h : GateAt W g l al lim m) (hl : l.length ≤ 1000) (hla : al.length ≤ 1000) (u q : List UInt8) {pa : Value} {i : Int} {who : Int} {is : Bool}
    (hO : Calls Try.prog 49 #[pa, .int .i64 i] W fun e w' => e = .returned (.tuple #[.int .i64 who, .bool is]) ∧ Below W.heap.size W w') (hpa : ∃ a, pa = .pointer a) :
    Calls Try.prog 22 #[.pointer (some ⟨g, 0, none⟩), pa, .string (bs u), .string (bs q), .int .i64 i] W fun e w' => e = .returned (.bool (decide (q ∈ al) && is && grantedP l u who)) ∧ Below W.heap.size W w' := by
  obtain ⟨a, rfl⟩ := hpa
  have HOw := Lib.hid hO
  have HG := Lib.hid (fun (W' : World) (hb : Below W.heap.size W W') => h.below hb)
  obtain ⟨ag, cg, aa, ca, c0, c1, _, _, _, h4, h5⟩ := h.open_
  have hN := nHas_any h5 (by rw [List.length_map]; unfold maxLen; omega) (bs q)
  rw [show decide (bs q ∈ al.map bs) = decide (q ∈ al) from by simp only [mem_bs24]] at hN
  have HN := Lib.hid hN
  have HGr := Lib.hid (fun (W' : World) (hb : Below W.heap.size W W') => dGranted_any (h4.below hb) (by unfold maxLen; omega) u who)
  have hgl := h.lt
  have HC0 := Lib.hid (fun (W' : World) (hb : Below W.heap.size W W') => (hb.cell (p := ⟨g, 0, none⟩) hgl).trans c0)
  have HB0 := Lib.hid (Below.refl W.heap.size W)
  clear hO HG h h4 h5 hN hgl
  generalize decide (q ∈ al) = d at *
  generalize grantedP l u who = z at *
  generalize bs u = U at *
  generalize bs q = Q at *
  cases d with
  | false =>
    clear HOw HGr
    go_enter Try.func22, Try.ntmps22
    go_wp2_with (go_at_call 48; (with_reducible refine HN.out.mono ?_); rintro e w1 ⟨rfl, hw⟩; have hw := hw.symm; subst hw)
    go_ret
    exact ⟨rfl, HB0.out⟩
  | true =>
    cases is with
    | false =>
      clear HGr
      go_enter Try.func22, Try.ntmps22
      go_wp2_with (first
        | (go_at_call 48; (with_reducible refine HN.out.mono ?_); rintro e w1 ⟨rfl, hw⟩; have hw := hw.symm; subst hw)
        | (go_at_call 49; (with_reducible refine HOw.out.mono ?_); rintro e w2 ⟨rfl, b2⟩))
      go_ret
      exact ⟨rfl, b2⟩
    | true =>
      go_enter Try.func22, Try.ntmps22
      go_wp2_with (first
        | (go_at_call 48; (with_reducible refine HN.out.mono ?_); rintro e w1 ⟨rfl, hw⟩; have hw := hw.symm; subst hw)
        | (go_at_call 49; (with_reducible refine HOw.out.mono ?_); rintro e w2 ⟨rfl, b2⟩; have c3 := HC0.out _ b2)
        | (go_at_call 50; (with_reducible refine (HGr.out _ b2).mono ?_); rintro e w3 ⟨rfl, b3⟩))
      go_ret
      exact ⟨by cases z <;> rfl, b2.trans (b3.mono b2.size)⟩
theorem dHas_any (h : Ta B w0 A P n W) {g : Nat} {l : List GrantR} {al : List (List UInt8)} {lim m : Int} (hg : GateAt W g l al lim m) (hl : l.length ≤ 1000) (hla : al.length ≤ 1000) (u q : List UInt8) {i : Int} {t : List UInt8} (hi : (i, t) ∈ P) :
    Calls Try.prog 22 #[.pointer (some ⟨g, 0, none⟩), .pointer (some ⟨A, 0, none⟩), .string (bs u), .string (bs q), .int .i64 i] W fun e w' => e = .returned (.bool (hasP l al u q t)) ∧ Below W.heap.size W w' :=
  dHas_owner hg hl hla u q (snOwner_any h hi) ⟨_, rfl⟩
end
set_option maxRecDepth 100000 in
theorem dHas_nil (pa : Option Addr) (U Q : ByteArray) (i : Int) (w : World) : Calls Try.prog 22 #[.pointer none, .pointer pa, .string U, .string Q, .int .i64 i] w fun e w' => e = .returned (.bool false) ∧ w' = w := by
  go_enter Try.func22, Try.ntmps22
  go_wp2_with fail
  go_ret
  exact ⟨rfl, rfl⟩
end Go.Proofs.Ytjlbifpbdocahaa

namespace Go.Proofs.Ytjlbifpbdocahaa
open Go.RowKit

set_option maxRecDepth 100000 in
theorem r24User_any (x : List UInt8) (hx : x.length ≤ 1000000) (w : World) : Calls Try.prog 44 #[.string (bs x)] w fun e w' => e = .returned (.bool (userP x)) ∧ w' = w := by
  have hsz := bs_size x
  have HI := Lib.hid (fun (k : Nat) (hk : k < x.length) W => index_bs x k hk W)
  have hle : (bs x).size ≤ 1000000 := by omega
  generalize bs x = S at *
  go_enter Try.func44, Try.ntmps44
  go_wp2_with fail
  go_loopw [3] (fun i wr => ∃ k : Nat, k ≤ x.length ∧ i = .int .i64 k ∧ (∀ b ∈ x.take k, uByte b = true) ∧ wr = w) (fun i _ => x.length - (intOf i).toNat)
  case atStart => exact ⟨0, Nat.zero_le _, rfl, by simp, rfl⟩
  case round =>
    obtain ⟨k, hk, rfl, htk, rfl⟩ := hrel
    by_cases hlt : k < x.length
    · have c1 := HI.out k hlt
      obtain ⟨b, hb⟩ : ∃ b, b = x[k] := ⟨_, rfl⟩
      rw [← hb] at c1
      have HN : Hid (uByte b = true → ∀ a ∈ x.take (k + 1), uByte a = true) := fun e a ha => by
        rw [List.take_succ_eq_append_getElem hlt, ← hb, List.mem_append] at ha
        rcases ha with ha | ha
        · exact htk a ha
        · simp at ha
          rw [ha]; exact e
      have HF : Hid (uByte b = false → userP x = false) := fun e => user_byte (by rw [hb]; exact List.getElem_mem hlt) e
      have HB : Hid (uByte b = decide (33 ≤ b.toNat ∧ b.toNat ≤ 126)) := rfl
      clear hb htk HI
      generalize b.toNat = n at *
      by_cases n1 : n < 33
      · have hq : decide ((n : Int) < 33) = true := decide_eq_true (by omega)
        have HO : Hid (uByte b = false) := by show uByte b = false; rw [HB.out]; exact decide_eq_false (by omega)
        go_wp2_with fail
        go_ret
        exact ⟨by rw [HF.out HO.out]; rfl, rfl⟩
      · have q1 : decide ((n : Int) < 33) = false := decide_eq_false (by omega)
        by_cases n2 : 126 < n
        · have hq : decide ((n : Int) > 126) = true := decide_eq_true (by omega)
          have HO : Hid (uByte b = false) := by show uByte b = false; rw [HB.out]; exact decide_eq_false (by omega)
          go_wp2_with fail
          go_ret
          exact ⟨by rw [HF.out HO.out]; rfl, rfl⟩
        · have q2 : decide ((n : Int) > 126) = false := decide_eq_false (by omega)
          have HO : Hid (uByte b = true) := by show uByte b = true; rw [HB.out]; exact decide_eq_true (by omega)
          go_wp2_with fail
          go_roundw
          case rel => exact ⟨k + 1, by omega, by go_num, HN.out HO.out, trivial⟩
          case measure => simp [intOf]; omega
    · have hkl : k = x.length := by omega
      subst hkl
      rw [List.take_length] at htk
      have HA := Lib.hid htk
      clear htk hlt HI
      by_cases h1 : 1 ≤ x.length
      · have q1 : decide ((x.length : Int) > 0) = true := decide_eq_true (by omega)
        by_cases h2 : x.length ≤ 64
        · have q2 : decide ((x.length : Int) ≤ 64) = true := decide_eq_true (by omega)
          have HR := Lib.hid (user_of (x := x) ⟨h1, h2⟩ HA.out)
          go_wp2_with fail
          go_ret
          exact ⟨by rw [HR.out]; rfl, rfl⟩
        · have q2 : decide ((x.length : Int) ≤ 64) = false := decide_eq_false (by omega)
          have HR := Lib.hid (user_len (x := x) (by omega))
          go_wp2_with fail
          go_ret
          exact ⟨by rw [HR.out]; rfl, rfl⟩
      · have q1 : decide ((x.length : Int) > 0) = false := decide_eq_false (by omega)
        have HR := Lib.hid (user_len (x := x) (by omega))
        go_wp2_with fail
        go_ret
        exact ⟨by rw [HR.out]; rfl, rfl⟩
end Go.Proofs.Ytjlbifpbdocahaa
