/- Part 29 of what the statement wants. -/
import Derived.Test.YtjlbifpbdocahaaGreatDoorPk25
import Derived.Test.YtjlbifpbdocahaaGreatDoorPk26
import Derived.Test.YtjlbifpbdocahaaGreatDoorPk28
namespace Go.Proofs.YtjlbifpbdocahaaGreatDoor
open Go.RowKit

theorem key_node {x : Nat} (h : x ≤ 2147483647) : kindL (refKeyL (x : Int)) = 3 ∧ nodeOf (refKeyL (x : Int)) = ⟨3, x, 0, [], []⟩ := by
  have hs := key_same Good.nil (by simp) (x : Int)
  have e1 := keyL_key h
  rcases hs.is with ⟨_, e⟩ | ⟨n, _, hn, e⟩
  · rw [e1] at e; cases e
  · have he : (keyM [] (x : Int)).2[n]? = some _ := List.getElem?_eq_getElem hn
    have hk : kindL (refKeyL (x : Int)) = 3 := by rw [e1]; rfl
    obtain ⟨a, ha, hsh⟩ := sh3 (hs.good.sh n _ he) (by rw [← (kind_enc0 hs.good hn).1, ← e]; exact hk)
    refine ⟨hk, ?_⟩
    have e2 : enc (keyM [] (x : Int)).2 n = 243 :: pack4 a := by
      rw [hs.good.enc_eq he, hsh]
      rfl
    have e3 := e1.symm.trans (e.trans e2)
    simp only [List.cons.injEq, true_and] at e3
    have e4 := (pack4_app (a := x) (b := a) (x := []) (y := []) (by omega) (by omega) (by rw [e3])).1
    rw [e, nodeOf_enc hs.good he, hsh, e4]
    rfl
theorem owner_pub {x : Nat} (h : x ≤ 2147483647) : ownerP (pubL (x : Int)) = ((x : Int), true) := by
  have e := pubL_pub h
  have hk : kindL (pubL (x : Int)) = 4 := by rw [e]; rfl
  unfold ownerP
  rw [if_pos hk, e, List.drop_succ_cons, List.drop_zero, ← keyL_key h, (key_node h).2]
/-- A text that is a public key only as one that is made. -/
def PubOk (t : List UInt8) : Prop := kindL t = 4 → ∃ x : Nat, x ≤ 2147483647 ∧ t = pubL (x : Int)
theorem Ta.pubOk {B A n : Nat} {w0 W : World} {P : List (Int × List UInt8)} (h : Ta B w0 A P n W) {i : Int} {t : List UInt8} (h1 : (i, t) ∈ P) : PubOk t := fun h4 => by
  rcases h.text h1 with rfl | ⟨L, k, hG, hk, rfl, _⟩
  · simp [kindL] at h4
  · obtain ⟨x, m, e, hx, h5, _⟩ := pub_is hG hk h4
    exact ⟨x, hx, h5⟩
theorem pubL_short (who : Int) : (pubL who).length ≤ 100 := by
  by_cases hw : 0 ≤ who ∧ who ≤ 2147483647
  · obtain ⟨x, rfl⟩ : ∃ x : Nat, who = x := ⟨who.toNat, by omega⟩
    rw [pubL_pub (by omega)]
    simp [pack4]
  · rw [pubL_out (by omega)]
    simp
theorem keyL_short (who : Int) : (refKeyL who).length ≤ 100 := by
  by_cases hw : 0 ≤ who ∧ who ≤ 2147483647
  · obtain ⟨x, rfl⟩ : ∃ x : Nat, who = x := ⟨who.toNat, by omega⟩
    rw [keyL_key (by omega)]
    simp [pack4]
  · rw [keyL_out (by omega)]
    simp
set_option maxRecDepth 100000 in
theorem r22Pub_any (who : Int) (w : World) : Calls Tryz.prog 19 #[.int .i64 who] w fun e w' => e = .returned (.string (bs (pubL who))) ∧ Below w.heap.size w w' := by
  have HK := Lib.hid (fun W => refKey_any who W)
  have HP : Hid (∀ W : World, Calls Tryz.prog 51 #[.string (bs (refKeyL who))] W fun e w' => e = .returned (.string (bs (pubL who))) ∧ Below W.heap.size W w') := fun W => refPub_any (refKeyL who) (by have := keyL_short who; omega) W
  generalize pubL who = T at *
  generalize refKeyL who = K at *
  go_enter Tryz.func19, Tryz.ntmps19
  go_wp2_with (first
    | (go_at_call 39; (with_reducible refine (HK.out _).mono ?_); rintro e w1 ⟨rfl, b1⟩)
    | (go_at_call 51; (with_reducible refine (HP.out _).mono ?_); rintro e w2 ⟨rfl, b2⟩; have c2 := b1.trans (b2.mono b1.size)))
  go_ret
  exact ⟨rfl, c2⟩
theorem slice_one (b : UInt8) (r : List UInt8) (W : World) : (Instr.slice 9 (.string (bs (b :: r))) (some (.int .i64 1)) none none).run Tryz.prog W = .ok (.string (bs r)) W := by
  have hsz := bs_size (b :: r)
  rw [List.length_cons] at hsz
  rw [run_slice_string_l W 9 (bs (b :: r)) Tryz.underlying9 .i64 1 (by omega) (by omega)]
  have h : (bs (b :: r)).extract (1 : Int).toNat (bs (b :: r)).size = bs r := by
    apply ByteArray.ext
    apply Array.toList_inj.1
    rw [ByteArray.data_extract, Array.toList_extract, hsz]
    simp [bs, List.extract]
  first | rw [h] | (simp only [h])
set_option maxRecDepth 100000 in
theorem field_rn1 (k0 a0 b0 : Int) (s0 : ByteArray) (ao : Option Addr) (n cap : Nat) (W : World) : (Instr.field 145 (.agg #[.int .i64 k0, .int .i64 a0, .int .i64 b0, .string s0, .slice ao n cap]) 1).run Tryz.prog W = .ok (.int .i64 a0) W := by
  kernel_rfl
set_option maxRecDepth 100000 in
theorem r22Owner_any (t : List UInt8) (hT : PubOk t) (w : World) : Calls Tryz.prog 54 #[.string (bs t)] w fun e w' => e = .returned (.tuple #[.int .i64 (ownerP t).1, .bool (ownerP t).2]) ∧ Below w.heap.size w w' := by
  have HK := Lib.hid (fun W => refKind_any t W)
  have HR : Hid (Below w.heap.size w w) := Below.refl _ _
  by_cases h4 : kindL t = 4
  · obtain ⟨x, hx, e⟩ := hT h4
    have ho : ownerP t = ((x : Int), true) := by rw [e]; exact owner_pub hx
    rw [ho]
    have e1 : t = 244 :: refKeyL (x : Int) := by rw [e, pubL_pub hx, keyL_key hx]
    have hs : ∀ W : World, (Instr.slice 9 (.string (bs t)) (some (.int .i64 1)) none none).run Tryz.prog W = .ok (.string (bs (refKeyL (x : Int)))) W := fun W => by rw [e1]; exact slice_one _ _ W
    have HV : Hid (∀ W : World, Calls Tryz.prog 94 #[.string (bs (refKeyL (x : Int)))] W fun e w' => ∃ ao cap, e = .returned (.agg #[.int .i64 3, .int .i64 (x : Int), .int .i64 0, .string ⟨#[]⟩, .slice ao 0 cap]) ∧ Below W.heap.size W w') := fun W => by
      have hn := (key_node hx).2
      refine (refView_any (refKeyL (x : Int)) (by have := keyL_short (x : Int); omega) (by rw [hn]; simp) W).mono fun e w' ⟨v, h1, h2, h3⟩ => ?_
      rw [hn] at h1 h2
      obtain ⟨ao, cap, rfl, _⟩ := h2
      exact ⟨ao, cap, h1, h3⟩
    rw [h4] at HK
    have HK2 : Hid (∀ W : World, Calls Tryz.prog 82 #[.string (bs t)] W fun e w' => e = .returned (.int .i64 4) ∧ w' = W) := HK
    clear e e1 ho hT h4 hx HK
    generalize bs t = T at *
    generalize bs (refKeyL (x : Int)) = K at *
    generalize (x : Int) = X at *
    go_enter Tryz.func54, Tryz.ntmps54
    go_wp2_with (first
      | (go_at_call 82; (with_reducible refine (HK2.out _).mono ?_); rintro e w1 ⟨rfl, rfl⟩)
      | (go_at_call 94; (with_reducible refine (HV.out _).mono ?_); rintro e w2 ⟨ao, cap, rfl, b2⟩; have gf := field_rn1 3 X 0 ⟨#[]⟩ ao 0 cap)
      | fail)
    go_ret2
    exact ⟨rfl, b2⟩
  · have ho : ownerP t = (0, false) := if_neg h4
    rw [ho]
    have q5 : ((kindL t : Int) != 4) = true := by rw [bne_iff_ne]; omega
    clear ho h4 hT
    generalize (kindL t : Int) = K at *
    generalize bs t = T at *
    go_enter Tryz.func54, Tryz.ntmps54
    go_wp2_with (go_at_call 82; (with_reducible refine (HK.out _).mono ?_); rintro e w1 ⟨rfl, rfl⟩)
    go_ret2
    exact ⟨rfl, HR.out⟩
end Go.Proofs.YtjlbifpbdocahaaGreatDoor

namespace Go.Proofs.YtjlbifpbdocahaaGreatDoor
open Go.RowKit

theorem reqL_short (s u v g k : List UInt8) : (reqL s u v g k).length ≤ 131072 := by
  unfold reqL refListL
  split
  · rename_i h
    have := h.2.2
    simp only [List.length_append, tagL, pack4, List.length_cons, List.length_nil]
    omega
  · simp
set_option maxRecDepth 100000 in
theorem r22User_any (s u v g : List UInt8) (who : Int) (hs : s.length ≤ 131072) (hu : u.length ≤ 10000) (hv : v.length ≤ 10000) (hg : g.length ≤ 10000) (w : World) : Calls Tryz.prog 13 #[.string (bs s), .string (bs u), .string (bs v), .string (bs g), .int .i64 who] w fun e w' => e = .returned (.string (bs (userL s u v g who))) ∧ Below w.heap.size w w' := by
  have HK := Lib.hid (fun W => refKey_any who W)
  have HP := Lib.hid (fun W => r22Pub_any who W)
  have HR : Hid (∀ W : World, Calls Tryz.prog 16 #[.string (bs s), .string (bs u), .string (bs v), .string (bs g), .string (bs (pubL who))] W fun e w' => e = .returned (.string (bs (reqL s u v g (pubL who)))) ∧ Below W.heap.size W w') := fun W => r22Request_any s u v g (pubL who) hs hu hv hg (by have := pubL_short who; omega) W
  have HS : Hid (∀ W : World, Calls Tryz.prog 38 #[.string (bs g), .string (bs (refKeyL who)), .string (bs (reqL s u v g (pubL who)))] W fun e w' => e = .returned (.string (bs (userL s u v g who))) ∧ Below W.heap.size W w') := fun W => refSign_any g (refKeyL who) _ (by omega) (by have := keyL_short who; omega) (by have := reqL_short s u v g (pubL who); omega) W
  generalize userL s u v g who = T at *
  generalize reqL s u v g (pubL who) = R at *
  generalize pubL who = PP at *
  generalize refKeyL who = K at *
  clear hg hs hu hv
  go_enter Tryz.func13, Tryz.ntmps13
  go_wp2_with (first
    | (go_at_call 39; (with_reducible refine (HK.out _).mono ?_); rintro e w1 ⟨rfl, b1⟩)
    | (go_at_call 19; (with_reducible refine (HP.out _).mono ?_); rintro e w2 ⟨rfl, b2⟩; have c2 := b1.trans (b2.mono b1.size))
    | (go_at_call 16; (with_reducible refine (HR.out _).mono ?_); rintro e w3 ⟨rfl, b3⟩; have c3 := c2.trans (b3.mono c2.size))
    | (go_at_call 38; (with_reducible refine (HS.out _).mono ?_); rintro e w4 ⟨rfl, b4⟩; have c4 := c3.trans (b4.mono c3.size)))
  go_ret
  exact ⟨rfl, c4⟩
end Go.Proofs.YtjlbifpbdocahaaGreatDoor

namespace Go.Proofs.YtjlbifpbdocahaaGreatDoor
open Go.RowKit

def partS (c : Nat) : ByteArray := if c = 0 then ⟨#[]⟩ else if c = 1 then keyS else sigS
theorem ne_list {a b : List UInt8} (h : a ≠ b) : ((bs a).toList == (bs b).toList) = false ∧ ((bs a).toList != (bs b).toList) = true := by
  have : ((bs a).toList == (bs b).toList) = false := same_no fun e => h (bs_inj e)
  exact ⟨this, by rw [bne, this]; rfl⟩
theorem eq_list (a : List UInt8) : ((bs a).toList == (bs a).toList) = true ∧ ((bs a).toList != (bs a).toList) = false := by simp
set_option maxHeartbeats 2000000 in
set_option maxRecDepth 100000 in
theorem r22CheckUser_any (s u v g tk tt : List UInt8) (hT : PubOk tk) (hs : s.length ≤ 131072) (hu : u.length ≤ 10000) (hv : v.length ≤ 10000) (hg : g.length ≤ 10000) (w : World) :
    Calls Tryz.prog 22 #[.string (bs s), .string (bs u), .string (bs v), .string (bs g), .string (bs tk), .string (bs tt)] w fun e w' => e = .returned (.string (partS (userC s u v g tk tt))) ∧ Below w.heap.size w w' := by
  have HO := Lib.hid (fun W => r22Owner_any tk hT W)
  have HU := Lib.hid (fun W => r22User_any s u v g (ownerP tk).1 hs hu hv hg W)
  clear hT hs hu hv hg
  cases h1 : (ownerP tk).2 with
  | false =>
    have hc : userC s u v g tk tt = 1 := if_neg (by rw [h1]; simp)
    rw [hc, show partS 1 = ⟨#[107, 101, 121]⟩ from rfl]
    rw [h1] at HO
    clear hc h1
    generalize bs (userL s u v g (ownerP tk).1) = RU at *
    generalize (ownerP tk).1 = y at *
    generalize bs tk = K at *
    generalize bs tt = S at *
    generalize bs s = SS at *
    generalize bs u = U at *
    generalize bs v = V at *
    generalize bs g = G at *
    go_enter Tryz.func22, Tryz.ntmps22
    go_wp2_with (first
      | (go_at_call 54; (with_reducible refine (HO.out _).mono ?_); rintro e w1 ⟨rfl, b1⟩)
      | fail)
    go_ret
    exact ⟨rfl, b1⟩
  | true =>
    have hc : userC s u v g tk tt = if tt ≠ [] ∧ tt = userL s u v g (ownerP tk).1 then 0 else 2 := if_pos h1
    rw [hc]
    rw [h1] at HO
    clear hc h1
    by_cases h3 : tt = []
    · rw [if_neg (fun hh => hh.1 h3), show partS 2 = ⟨#[115, 105, 103, 110, 97, 116, 117, 114, 101]⟩ from rfl]
      have qs : (bs tt).toList.isEmpty = true := by rw [h3, ba_toList]; rfl
      clear h3
      generalize bs (userL s u v g (ownerP tk).1) = RU at *
      generalize (ownerP tk).1 = y at *
      generalize bs tk = K at *
      generalize bs tt = S at *
      generalize bs s = SS at *
      generalize bs u = U at *
      generalize bs v = V at *
      generalize bs g = G at *
      go_enter Tryz.func22, Tryz.ntmps22
      go_wp2_with (first
        | (go_at_call 54; (with_reducible refine (HO.out _).mono ?_); rintro e w1 ⟨rfl, b1⟩)
        | (go_at_call 13; (with_reducible refine (HU.out _).mono ?_); rintro e w2 ⟨rfl, b2⟩; have c2 := b1.trans (b2.mono b1.size))
        | fail)
      go_ret
      exact ⟨rfl, b1⟩
    have qs : (bs tt).toList.isEmpty = false := by
      rw [ba_toList]
      cases tt with
      | nil => exact absurd rfl h3
      | cons => rfl
    by_cases h4 : tt = userL s u v g (ownerP tk).1
    · rw [if_pos ⟨h3, h4⟩, show partS 0 = ⟨#[]⟩ from rfl]
      obtain ⟨q3, q4⟩ := eq_list tt
      rw [← h4] at HU
      clear h3 h4
      generalize (ownerP tk).1 = y at *
      generalize bs tk = K at *
      generalize bs tt = S at *
      generalize bs s = SS at *
      generalize bs u = U at *
      generalize bs v = V at *
      generalize bs g = G at *
      go_enter Tryz.func22, Tryz.ntmps22
      go_wp2_with (first
        | (go_at_call 54; (with_reducible refine (HO.out _).mono ?_); rintro e w1 ⟨rfl, b1⟩)
        | (go_at_call 13; (with_reducible refine (HU.out _).mono ?_); rintro e w2 ⟨rfl, b2⟩; have c2 := b1.trans (b2.mono b1.size))
        | fail)
      go_ret
      exact ⟨rfl, c2⟩
    · rw [if_neg (fun hh => h4 hh.2), show partS 2 = ⟨#[115, 105, 103, 110, 97, 116, 117, 114, 101]⟩ from rfl]
      obtain ⟨q3, q4⟩ := ne_list h4
      clear h3 h4
      generalize bs (userL s u v g (ownerP tk).1) = RU at *
      generalize (ownerP tk).1 = y at *
      generalize bs tk = K at *
      generalize bs tt = S at *
      generalize bs s = SS at *
      generalize bs u = U at *
      generalize bs v = V at *
      generalize bs g = G at *
      go_enter Tryz.func22, Tryz.ntmps22
      go_wp2_with (first
        | (go_at_call 54; (with_reducible refine (HO.out _).mono ?_); rintro e w1 ⟨rfl, b1⟩)
        | (go_at_call 13; (with_reducible refine (HU.out _).mono ?_); rintro e w2 ⟨rfl, b2⟩; have c2 := b1.trans (b2.mono b1.size))
        | fail)
      go_ret
      exact ⟨rfl, c2⟩
end Go.Proofs.YtjlbifpbdocahaaGreatDoor
