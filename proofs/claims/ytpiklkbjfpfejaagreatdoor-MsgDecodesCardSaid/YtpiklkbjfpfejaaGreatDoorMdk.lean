/- The walk of the law MsgDecodes.
The walk of the law MsgDecodes: where the payload is none.
The walk of the law MsgDecodes: where the payload is right. -/
import Derived.Test.YtpiklkbjfpfejaaGreatDoorDe2
import Derived.Test.YtpiklkbjfpfejaaGreatDoorEd2
import Derived.Test.YtpiklkbjfpfejaaGreatDoorSa1
import Derived.Test.YtpiklkbjfpfejaaGreatDoorMe2
namespace Go.Proofs.YtpiklkbjfpfejaaGreatDoor
open Go.RowKit

theorem failP_path {p : List UInt8} {path : List ByteArray} {code : Int} (h : failP p = some (path, code)) : path.length ≤ 20 ∧ ∀ x ∈ path, x.size ≤ 1000 := by
  have hw : ∀ n : Int, (wordP n).size ≤ 100 := fun n => by
    unfold wordP
    cases hr : rowP n with
    | none => exact Nat.zero_le _
    | some r =>
      have hm := List.mem_of_find?_eq_some hr
      have : ∀ r ∈ tableP, r.2.1.size ≤ 100 := by decide
      exact this r hm
  have hmsg : messageS.size ≤ 1000 := by decide
  cases p with
  | nil =>
    have h2 : some ([messageS], (4 : Int)) = some (path, code) := h
    injection h2 with h2
    injection h2 with h2 _
    subst h2
    exact ⟨by simp, fun x hx => by simp at hx; rw [hx]; exact hmsg⟩
  | cons b s =>
    by_cases hk : formsP (b.toNat : Int) = []
    · rw [failP, if_pos hk] at h
      injection h with h2
      injection h2 with h2 _
      subst h2
      exact ⟨by simp, fun x hx => by simp at hx; rw [hx]; exact hmsg⟩
    · rw [failP, if_neg hk] at h
      cases hf : (formsP (b.toNat : Int)).find? (fun f => fitsF f s) with
      | some f => rw [hf] at h; cases h
      | none =>
        rw [hf] at h
        injection h with h2
        injection h2 with h2 _
        subst h2
        refine ⟨by simp, fun x hx => ?_⟩
        simp only [List.mem_cons, List.not_mem_nil, or_false] at hx
        rcases hx with rfl | rfl
        · have := hw (b.toNat : Int); omega
        · have := placeF_size (firstF_mem hk) s; omega

theorem zeroFields (W : World) : FieldsAt W (.slice none 0 0) [] := ⟨none, 0, rfl, Nat.le_refl _, Nat.zero_le _, by simp, fun h => absurd rfl h⟩
theorem same7_zero (W : World) : Calls Tryz.prog 12 #[zeroM, zeroM] W fun r w' => r = .returned (.bool true) ∧ Below W.heap.size W w' :=
  same7_any (w := W) (v := .slice none 0 0) (v' := .slice none 0 0) (fs := []) (zeroFields W) (zeroFields W) (Nat.zero_le _) 0
theorem dec_fail {w : World} {p : List UInt8} (hp : p.length ≤ 2000) {path : List ByteArray} {code : Int} (hf : failP p = some (path, code)) (hT : TabAt w) (hV : VarAt w) :
    Calls Tryz.prog 11 #[.string (bs p)] w fun r w' => ∃ t u, r = .returned (.tuple #[zeroM, .iface t u]) ∧ ErrAt w' (.iface t u) path (some code) ∧ Below w.heap.size w w' :=
  (dec_any p hp hT hV).mono fun r w' ⟨hb, hc⟩ => by
    rcases hc with ⟨path', code', t, u, e1, e2, e3⟩ | ⟨b, s, f, v, _, e2, _⟩
    · rw [hf] at e1
      cases e1
      exact ⟨t, u, e2, e3, hb⟩
    · rw [hf] at e2; cases e2
theorem rdec_fail {w : World} {p : List UInt8} (hp : p.length ≤ 2000) {path : List ByteArray} {code : Int} (hf : failP p = some (path, code)) :
    Calls Tryz.prog 13 #[.string (bs p)] w fun r w' => r = .returned (.tuple #[zeroM, .agg #[.int .i64 code, .string (atP path)]]) ∧ Below w.heap.size w w' :=
  (rdec_any p hp).mono fun r w' ⟨hb, hc⟩ => by
    rcases hc with ⟨path', code', e1, e2⟩ | ⟨b, s, f, v, _, e2, _⟩
    · rw [hf] at e1
      cases e1
      exact ⟨e2, hb⟩
    · rw [hf] at e2; cases e2
theorem wrong_fail {w : World} {t : TypeId} {u : Value} {p : List UInt8} {path : List ByteArray} {code : Int} (hf : failP p = some (path, code)) (hg : TypeOfError w) (he : ErrAt w (.iface t u) path (some code)) :
    Calls Tryz.prog 10 #[.iface t u, .agg #[.int .i64 code, .string (atP path)]] w fun r w' => r = .returned (.bool true) ∧ Below w.heap.size w w' :=
  @wrong_any w t u path (some code) hg he (failP_path hf).1 (failP_path hf).2
end Go.Proofs.YtpiklkbjfpfejaaGreatDoor

namespace Go.Proofs.YtpiklkbjfpfejaaGreatDoor
open Go.RowKit
set_option maxHeartbeats 1000000 in
set_option maxRecDepth 100000 in
theorem msgDecodes_fail {w : World} (p : List UInt8) (hp : p.length ≤ 2000) {path : List ByteArray} {code : Int} (hf : failP p = some (path, code)) (hT : TabAt w) (hV : VarAt w) (hg : TypeOfError w) :
    Calls Tryz.prog 4 #[.string (bs p)] w fun e w' => e = .returned (.bool true) ∧ Below w.heap.size w w' := by
  have hsz := bs_size p
  have hlen : ((bs p).size : Int) ≤ 2000 := by omega
  have hc0 := failP_code hf
  have HAw := Lib.hid (fun (W : World) (hb : Below w.heap.size w W) => awake7_any (hT.below hb))
  have HD := Lib.hid (dec_fail hp hf hT hV)
  have HR := Lib.hid (fun (W : World) => rdec_fail (w := W) hp hf)
  have HWr := Lib.hid (fun (W : World) (hb : Below w.heap.size w W) (t : TypeId) (u : Value) => wrong_fail (w := W) (t := t) (u := u) hf (hg.later hb))
  have HSm := Lib.hid same7_zero
  have q1 : (code != 0) = true := by rw [bne_iff_ne]; exact hc0
  have q2 : decide ((2000 : Int) < (bs p).size) = false := by simp; omega
  clear hsz hc0 hf hT hV hg hp hlen
  unfold zeroM at *
  generalize bs p = P at *
  generalize atP path = AP at *
  go_enter Tryz.func4, Tryz.ntmps4
  go_wp2_with (first
    | (go_at_call 11; with_reducible refine HD.out.mono ?_; rintro r w1 ⟨t, u, rfl, he1, b1⟩; have hZ := Holds.new w1 24 #[.int .i64 0, .slice none 0 0]; have z0 := hZ.cell 0; have z1 := hZ.cell 1; have s0 := hZ.frozen 0; have s1 := hZ.frozen 1)
    | (go_at_call 13; with_reducible refine (HR.out _).mono ?_; rintro r w2 ⟨rfl, b2⟩
       have hY := Holds.new (w2.alloc (.cells #[.int .i64 0, .slice none 0 0] 24)) 33 #[.int .i64 code, .string AP]
       have y0 := hY.cell 0; have y1 := hY.cell 1; have r0 := hY.frozen 0; have r1 := hY.frozen 1)
    | fail)
  have hM1 : Holds w2 w1.heap.size 24 #[.int .i64 0, .slice none 0 0] := hZ.moves (Moves.ofBelow (S := nobody) b2) (fun h => h)
  have b3 : Below w2.heap.size w2 ((w2.alloc (.cells #[.int .i64 0, .slice none 0 0] 24)).alloc (.cells #[.int .i64 code, .string AP] 33)) := ((Below.refl w2.heap.size w2).alloc (Nat.le_refl _) _).alloc (by simp) _
  have hM2 := hM1.moves (Moves.ofBelow (S := nobody) b3) (fun h => h)
  have bz : Below w1.heap.size w1 (w1.alloc (.cells #[.int .i64 0, .slice none 0 0] 24)) := (Below.refl _ _).alloc (Nat.le_refl _) _
  have he3 := ((he1.later bz).later b2).later b3
  have hb3 := ((b1.trans (bz.mono b1.size)).trans (b2.mono (Nat.le_trans b1.size bz.size))).trans (b3.mono (Nat.le_trans b1.size (Nat.le_trans bz.size b2.size)))
  rw [World.size_alloc] at hY
  clear hZ z0 z1 s0 s1 y0 y1 r0 r1 hM1 b1 b2 b3 bz he1
  generalize (w2.alloc (.cells #[.int .i64 0, .slice none 0 0] 24)).alloc (.cells #[.int .i64 code, .string AP] 33) = W3 at *
  generalize w1.heap.size = A at *
  generalize w2.heap.size + 1 = B at *
  refine (HAw.out _ hb3).mono ?_
  rintro r w4 ⟨rfl, b4⟩
  have hb4 := hb3.trans (b4.mono hb3.size)
  have he4 := he3.later b4
  have hM4 := hM2.moves (Moves.ofBelow (S := nobody) b4) (fun h => h)
  have hY4 := hY.moves (Moves.ofBelow (S := nobody) b4) (fun h => h)
  have y0 := hY4.cell 0; have y1 := hY4.cell 1; have r0 := hY4.frozen 0; have r1 := hY4.frozen 1
  clear hM2 hY hb3 he3 b4
  go_wp2_with (first
    | (go_at_call 10; with_reducible refine (HWr.out _ hb4 _ _ he4).mono ?_; rintro r w5 ⟨rfl, b5⟩
       have hb5 := hb4.trans (b5.mono hb4.size)
       have hM5 := hM4.moves (Moves.ofBelow (S := nobody) b5) (fun h => h)
       have z0 := hM5.cell 0; have z1 := hM5.cell 1; have s0 := hM5.frozen 0; have s1 := hM5.frozen 1)
    | (go_at_call 12; with_reducible refine (HSm.out _).mono ?_; rintro r w6 ⟨rfl, b6⟩
       have hb6 := hb5.trans (b6.mono hb5.size))
    | fail)
  go_ret
  exact ⟨rfl, hb6⟩
end Go.Proofs.YtpiklkbjfpfejaaGreatDoor

namespace Go.Proofs.YtpiklkbjfpfejaaGreatDoor
open Go.RowKit
theorem failP_none {p : List UInt8} (h : failP p = none) : ∃ b s f, p = b :: s ∧ (formsP (b.toNat : Int)).find? (fun f => fitsF f s) = some f := by
  cases p with
  | nil => exact absurd h (by simp [failP])
  | cons b s =>
    by_cases hk : formsP (b.toNat : Int) = []
    · rw [failP, if_pos hk] at h; cases h
    · rw [failP, if_neg hk] at h
      cases hf : (formsP (b.toNat : Int)).find? (fun f => fitsF f s) with
      | some f => exact ⟨b, s, f, rfl, hf⟩
      | none => rw [hf] at h; cases h
theorem nextB_self (b : UInt8) : nextB (b.toNat : Int) = b := by
  unfold nextB
  have := b.toNat_lt
  have e : ((b.toNat : Int) % 256).toNat = b.toNat := by omega
  rw [e]
  exact UInt8.ofNat_toNat
theorem dec_right {w : World} {b : UInt8} {s : List UInt8} {f : ByteArray} (hp : (b :: s).length ≤ 2000) (hn : failP (b :: s) = none) (hf : (formsP (b.toNat : Int)).find? (fun f => fitsF f s) = some f) (hT : TabAt w) (hV : VarAt w) :
    Calls Tryz.prog 11 #[.string (bs (b :: s))] w fun r w' => ∃ ao, ∃ L cap : Nat, r = .returned (.tuple #[.agg #[.int .i64 (b.toNat : Int), .slice ao L cap], .nilIface]) ∧ FieldsAt w' (.slice ao L cap) (fieldsF f s) ∧ Below w.heap.size w w' :=
  (dec_any (b :: s) hp hT hV).mono fun r w' ⟨hb, hc⟩ => by
    rcases hc with ⟨path', code', t, u, e1, e2, e3⟩ | ⟨b', s', f', v, e0, _, e2, e3, e4⟩
    · rw [hn] at e1; cases e1
    · cases e0
      rw [hf] at e2
      cases e2
      have e5 := e4
      obtain ⟨ao, cap, rfl, _⟩ := e5
      exact ⟨ao, _, cap, e3, e4, hb⟩
theorem rdec_right {w : World} {b : UInt8} {s : List UInt8} {f : ByteArray} (hp : (b :: s).length ≤ 2000) (hn : failP (b :: s) = none) (hf : (formsP (b.toNat : Int)).find? (fun f => fitsF f s) = some f) :
    Calls Tryz.prog 13 #[.string (bs (b :: s))] w fun r w' => ∃ ao, ∃ L cap : Nat, r = .returned (.tuple #[.agg #[.int .i64 (b.toNat : Int), .slice ao L cap], .agg #[.int .i64 0, .string ⟨#[]⟩]]) ∧ FieldsAt w' (.slice ao L cap) (fieldsF f s) ∧ Below w.heap.size w w' :=
  (rdec_any (b :: s) hp).mono fun r w' ⟨hb, hc⟩ => by
    rcases hc with ⟨path', code', e1, e2⟩ | ⟨b', s', f', v, e0, _, e2, e3, e4⟩
    · rw [hn] at e1; cases e1
    · cases e0
      rw [hf] at e2
      cases e2
      have e5 := e4
      obtain ⟨ao, cap, rfl, _⟩ := e5
      exact ⟨ao, _, cap, e3, e4, hb⟩
theorem fieldsF_len {n : Int} {f : ByteArray} {s : List UInt8} (hf : f ∈ formsP n) (hfit : fitsF f s = true) : (fieldsF f s).length ≤ 1000 := by
  have := (readsP_count (lettersOf f) s (fitsF_parts hfit).1).2
  have := (forms_letters hf).1
  unfold fieldsF
  omega
set_option maxHeartbeats 1000000 in
set_option maxRecDepth 100000 in
theorem msgDecodes_right {w : World} (b : UInt8) (s : List UInt8) (f : ByteArray) (hp : (b :: s).length ≤ 2000) (hn : failP (b :: s) = none) (hf : (formsP (b.toNat : Int)).find? (fun f => fitsF f s) = some f) (hT : TabAt w) (hV : VarAt w) :
    Calls Tryz.prog 4 #[.string (bs (b :: s))] w fun e w' => e = .returned (.bool true) ∧ Below w.heap.size w w' := by
  have hmem := List.mem_of_find?_eq_some hf
  have hfit : fitsF f s = true := List.find?_some (p := fun f => fitsF f s) hf
  have hl := fieldsF_len hmem hfit
  have hsl : s.length ≤ 10000 := by rw [List.length_cons] at hp; omega
  have hsz := bs_size (b :: s)
  have hlen : ((bs (b :: s)).size : Int) ≤ 2000 := by omega
  have HAw := Lib.hid (fun (W : World) (hb : Below w.heap.size w W) => awake7_any (hT.below hb))
  have HD := Lib.hid (dec_right hp hn hf hT hV)
  have HR := Lib.hid (fun (W : World) => rdec_right (w := W) hp hn hf)
  have HEn : Hid (∀ (W : World) (hb : Below w.heap.size w W) (ao : Option Addr) (L cap : Nat), FieldsAt W (.slice ao L cap) (fieldsF f s) → Calls Tryz.prog 8 #[.agg #[.int .i64 (b.toNat : Int), .slice ao L cap]] W fun e w' => e = .returned (.tuple #[.string (bs (b :: s)), .nilIface]) ∧ Below W.heap.size W w') := fun W hb ao L cap hv => by
    have h := decoded_encodes (w := W) hmem hfit hsl hv (hT.below hb)
    rw [nextB_self] at h
    exact h
  have HSm : Hid (∀ (W : World) (ao ao' : Option Addr) (L cap L' cap' : Nat), FieldsAt W (.slice ao L cap) (fieldsF f s) → FieldsAt W (.slice ao' L' cap') (fieldsF f s) → Calls Tryz.prog 12 #[.agg #[.int .i64 (b.toNat : Int), .slice ao L cap], .agg #[.int .i64 (b.toNat : Int), .slice ao' L' cap']] W fun e w' => e = .returned (.bool true) ∧ Below W.heap.size W w') := fun W ao ao' L cap L' cap' h h' => same7_any h h' hl _
  have q2 : decide ((2000 : Int) < (bs (b :: s)).size) = false := by simp; omega
  clear hsz hn hf hT hV hp hlen hl hsl hfit hmem
  generalize bs (b :: s) = P at *
  generalize fieldsF f s = fs at *
  generalize (b.toNat : Int) = n at *
  go_enter Tryz.func4, Tryz.ntmps4
  go_wp2_with (first
    | (go_at_call 11; with_reducible refine HD.out.mono ?_; rintro r w1 ⟨ao, L, cap, rfl, f1, b1⟩; have hZ := Holds.new w1 24 #[.int .i64 n, .slice ao L cap]; have z0 := hZ.cell 0; have z1 := hZ.cell 1; have s0 := hZ.frozen 0; have s1 := hZ.frozen 1)
    | (go_at_call 13; with_reducible refine (HR.out _).mono ?_; rintro r w2 ⟨ao2, L2, cap2, rfl, f2, b2⟩
       have hM2 : Holds w2 w1.heap.size 24 #[.int .i64 n, .slice ao L cap] := hZ.moves (Moves.ofBelow (S := nobody) b2) (fun h => h)
       have hX := Holds.new w2 24 #[.int .i64 n, .slice ao2 L2 cap2]
       have hY := Holds.new (w2.alloc (.cells #[.int .i64 n, .slice ao2 L2 cap2] 24)) 33 #[.int .i64 0, .string ⟨#[]⟩]
       have hX3 := hX.moves ((Moves.refl nobody _).alloc (.cells #[.int .i64 0, .string ⟨#[]⟩] 33)) (fun h => h)
       have hM3 := (hM2.moves ((Moves.refl nobody _).alloc (.cells #[.int .i64 n, .slice ao2 L2 cap2] 24)) (fun h => h)).moves ((Moves.refl nobody _).alloc (.cells #[.int .i64 0, .string ⟨#[]⟩] 33)) (fun h => h)
       have b3 : Below w2.heap.size w2 ((w2.alloc (.cells #[.int .i64 n, .slice ao2 L2 cap2] 24)).alloc (.cells #[.int .i64 0, .string ⟨#[]⟩] 33)) := ((Below.refl w2.heap.size w2).alloc (Nat.le_refl _) _).alloc (by simp) _
       have bz : Below w1.heap.size w1 (w1.alloc (.cells #[.int .i64 n, .slice ao L cap] 24)) := (Below.refl _ _).alloc (Nat.le_refl _) _
       have f1c := ((f1.below bz).below b2).below b3
       have f2c := f2.below b3
       have hb3 := ((b1.trans (bz.mono b1.size)).trans (b2.mono (Nat.le_trans b1.size bz.size))).trans (b3.mono (Nat.le_trans b1.size (Nat.le_trans bz.size b2.size)))
       have y0 := hY.cell 0; have y1 := hY.cell 1; have r0 := hY.frozen 0; have r1 := hY.frozen 1
       have m0 := hM3.cell 0; have m1 := hM3.cell 1; have n0 := hM3.frozen 0; have n1 := hM3.frozen 1)
    | fail)
  clear hZ z0 z1 s0 s1 y0 y1 r0 r1 m0 m1 n0 n1 hM2 hX hY b1 b2 b3 bz f1 f2
  generalize (w2.alloc (.cells #[.int .i64 n, .slice ao2 L2 cap2] 24)).alloc (.cells #[.int .i64 0, .string ⟨#[]⟩] 33) = W3 at *
  generalize w1.heap.size = A at *
  generalize w2.heap.size = B at *
  refine (HEn.out _ hb3 _ _ _ f1c).mono ?_
  rintro r w4 ⟨rfl, b4⟩
  have hb4 := hb3.trans (b4.mono hb3.size)
  have f1d := f1c.below b4
  have f2d := f2c.below b4
  have hM4 := hM3.moves (Moves.ofBelow (S := nobody) b4) (fun h => h)
  have hX4 := hX3.moves (Moves.ofBelow (S := nobody) b4) (fun h => h)
  have hq : (P.toList == P.toList) = true := by simp
  clear hM3 hX3 f1c f2c hb3 b4
  go_wp2_with (first
    | (go_at_call 7; with_reducible refine (HAw.out _ hb4).mono ?_; rintro r w5 ⟨rfl, b5⟩
       have hb5 := hb4.trans (b5.mono hb4.size)
       have f1e := f1d.below b5
       have f2e := f2d.below b5
       have hM5 := hM4.moves (Moves.ofBelow (S := nobody) b5) (fun h => h)
       have hX5 := hX4.moves (Moves.ofBelow (S := nobody) b5) (fun h => h)
       have z0 := hM5.cell 0; have z1 := hM5.cell 1; have s0 := hM5.frozen 0; have s1 := hM5.frozen 1
       have y0 := hX5.cell 0; have y1 := hX5.cell 1; have r0 := hX5.frozen 0; have r1 := hX5.frozen 1)
    | (go_at_call 12; with_reducible refine (HSm.out _ _ _ _ _ _ _ f1e f2e).mono ?_; rintro r w6 ⟨rfl, b6⟩
       have hb6 := hb5.trans (b6.mono hb5.size))
    | fail)
  go_ret
  exact ⟨rfl, hb6⟩
end Go.Proofs.YtpiklkbjfpfejaaGreatDoor
