/- Part 28 of what the statement wants. -/
import Derived.Test.YtbnecckgapainaaGreatDoorChecked
import Derived.LaidEql
import Derived.Stop.Asserts
import Derived.RowKitTokens
import Derived.Test.YtbnecckgapainaaGreatDoorPk00
import Derived.Test.YtbnecckgapainaaGreatDoorPk27
namespace Go.Proofs.YtbnecckgapainaaGreatDoor
open Go.RowKit

def partS (c : Nat) : ByteArray := if c = 0 then ⟨#[]⟩ else if c = 1 then keyS else sigS
theorem slice_one (b : UInt8) (r : List UInt8) (W : World) : (Instr.slice 9 (.string (bs (b :: r))) (some (.int .i64 1)) none none).run Tryz.prog W = .ok (.string (bs r)) W := by
  have hsz := bs_size (b :: r)
  rw [List.length_cons] at hsz
  rw [run_slice_string_l W 9 (bs (b :: r)) Tryz.underlying9 .i64 1 (by omega) (by omega)]
  have h : (bs (b :: r)).extract (1 : Int).toNat (bs (b :: r)).size = bs r := by
    apply ByteArray.ext
    apply Array.toList_inj.1
    rw [ByteArray.data_extract, Array.toList_extract, hsz]
    simp [bs, List.extract]
  first | rw [h] | (simp only [h])
set_option maxRecDepth 100000 in
theorem field_rn1 (k0 a0 b0 : Int) (s0 : ByteArray) (ao : Option Addr) (n cap : Nat) (W : World) : (Instr.field 127 (.agg #[.int .i64 k0, .int .i64 a0, .int .i64 b0, .string s0, .slice ao n cap]) 1).run Tryz.prog W = .ok (.int .i64 a0) W := by
  kernel_rfl
set_option maxRecDepth 100000 in
theorem r22Owner_any (t : List UInt8) (hT : PubOk t) (w : World) : Calls Tryz.prog 41 #[.string (bs t)] w fun e w' => e = .returned (.tuple #[.int .i64 (ownerP t).1, .bool (ownerP t).2]) ∧ Below w.heap.size w w' := by
  have HK := Lib.hid (fun W => refKind_any t W)
  have HR : Hid (Below w.heap.size w w) := Below.refl _ _
  by_cases h4 : kindL t = 4
  · obtain ⟨x, hx, e⟩ := hT h4
    have ho : ownerP t = ((x : Int), true) := by rw [e]; exact owner_pub hx
    rw [ho]
    have e1 : t = 244 :: refKeyL (x : Int) := by rw [e, pubL_pub hx, keyL_key hx]
    have hs : ∀ W : World, (Instr.slice 9 (.string (bs t)) (some (.int .i64 1)) none none).run Tryz.prog W = .ok (.string (bs (refKeyL (x : Int)))) W := fun W => by rw [e1]; exact slice_one _ _ W
    have HV : Hid (∀ W : World, Calls Tryz.prog 71 #[.string (bs (refKeyL (x : Int)))] W fun e w' => ∃ ao cap, e = .returned (.agg #[.int .i64 3, .int .i64 (x : Int), .int .i64 0, .string ⟨#[]⟩, .slice ao 0 cap]) ∧ Below W.heap.size W w') := fun W => by
      have hn := (key_node hx).2
      refine (refView_any (refKeyL (x : Int)) (by have := keyL_short (x : Int); omega) (by rw [hn]; simp) W).mono fun e w' ⟨v, h1, h2, h3⟩ => ?_
      rw [hn] at h1 h2
      obtain ⟨ao, cap, rfl, _⟩ := h2
      exact ⟨ao, cap, h1, h3⟩
    rw [h4] at HK
    have HK2 : Hid (∀ W : World, Calls Tryz.prog 70 #[.string (bs t)] W fun e w' => e = .returned (.int .i64 4) ∧ w' = W) := HK
    clear e e1 ho hT h4 hx HK
    generalize bs t = T at *
    generalize bs (refKeyL (x : Int)) = K at *
    generalize (x : Int) = X at *
    go_enter Tryz.func41, Tryz.ntmps41
    go_wp2_with (first
      | (go_at_call 70; (with_reducible refine (HK2.out _).mono ?_); rintro e w1 ⟨rfl, rfl⟩)
      | (go_at_call 71; (with_reducible refine (HV.out _).mono ?_); rintro e w2 ⟨ao, cap, rfl, b2⟩; have gf := field_rn1 3 X 0 ⟨#[]⟩ ao 0 cap)
      | fail)
    go_ret2
    exact ⟨rfl, b2⟩
  · have ho : ownerP t = (0, false) := if_neg h4
    rw [ho]
    have q5 : ((kindL t : Int) != 4) = true := by rw [bne_iff_ne]; omega
    clear ho h4 hT
    generalize (kindL t : Int) = K at *
    generalize bs t = T at *
    go_enter Tryz.func41, Tryz.ntmps41
    go_wp2_with (go_at_call 70; (with_reducible refine (HK.out _).mono ?_); rintro e w1 ⟨rfl, rfl⟩)
    go_ret2
    exact ⟨rfl, HR.out⟩
theorem ne_list {a b : List UInt8} (h : a ≠ b) : ((bs a).toList == (bs b).toList) = false ∧ ((bs a).toList != (bs b).toList) = true := by
  have : ((bs a).toList == (bs b).toList) = false := same_no fun e => h (bs_inj e)
  exact ⟨this, by rw [bne, this]; rfl⟩
theorem eq_list (a : List UInt8) : ((bs a).toList == (bs a).toList) = true ∧ ((bs a).toList != (bs a).toList) = false := by simp
set_option maxHeartbeats 2000000 in
set_option maxRecDepth 100000 in
theorem r22CheckHost_any (g : List UInt8) (who : Int) (tk ts th : List UInt8) (hT : PubOk tk) (hg : g.length ≤ 1000000) (ht : th.length ≤ 1000000) (w : World) :
    Calls Tryz.prog 31 #[.string (bs g), .int .i64 who, .string (bs tk), .string (bs ts), .string (bs th)] w fun e w' => e = .returned (.string (partS (hostC g who tk ts th))) ∧ Below w.heap.size w w' := by
  have HP := Lib.hid (fun W => r22Pub_any who W)
  have HH := Lib.hid (fun W => r22Host_any g who th hg ht W)
  have HR : Hid (Below w.heap.size w w) := Below.refl _ _
  have hk := owner_iff hT who
  clear hg ht hT
  by_cases h1 : tk = []
  · have hc : hostC g who tk ts th = 1 := if_neg (fun h => (hk.1 h).1 h1)
    rw [hc, show partS 1 = ⟨#[107, 101, 121]⟩ from rfl]
    have qe : (bs tk).toList.isEmpty = true := by rw [h1, ba_toList]; rfl
    clear hk hc h1
    generalize bs tk = K at *
    generalize bs ts = S at *
    generalize bs th = H at *
    generalize bs g = G at *
    go_enter Tryz.func31, Tryz.ntmps31
    go_wp2_with (first
      | (go_at_call 28; (with_reducible refine (HP.out _).mono ?_); rintro e w1 ⟨rfl, b1⟩)
      | fail)
    go_ret
    exact ⟨rfl, HR.out⟩
  have qe : (bs tk).toList.isEmpty = false := by
    rw [ba_toList]
    cases tk with
    | nil => exact absurd rfl h1
    | cons => rfl
  by_cases h2 : tk = pubL who
  · have hc : hostC g who tk ts th = if ts ≠ [] ∧ ts = hostL g who th then 0 else 2 := if_pos (hk.2 ⟨h1, h2⟩)
    rw [hc]
    obtain ⟨q1, q2⟩ := eq_list tk
    rw [← h2] at HP
    clear hk hc h1 h2
    by_cases h3 : ts = []
    · rw [if_neg (fun hh => hh.1 h3), show partS 2 = ⟨#[115, 105, 103, 110, 97, 116, 117, 114, 101]⟩ from rfl]
      have qs : (bs ts).toList.isEmpty = true := by rw [h3, ba_toList]; rfl
      clear h3
      generalize bs tk = K at *
      generalize bs ts = S at *
      generalize bs (hostL g who th) = RH at *
      generalize bs th = H at *
      generalize bs g = G at *
      go_enter Tryz.func31, Tryz.ntmps31
      go_wp2_with (first
        | (go_at_call 28; (with_reducible refine (HP.out _).mono ?_); rintro e w1 ⟨rfl, b1⟩)
        | (go_at_call 25; (with_reducible refine (HH.out _).mono ?_); rintro e w2 ⟨rfl, b2⟩; have c2 := b1.trans (b2.mono b1.size))
        | fail)
      go_ret
      exact ⟨rfl, b1⟩
    have qs : (bs ts).toList.isEmpty = false := by
      rw [ba_toList]
      cases ts with
      | nil => exact absurd rfl h3
      | cons => rfl
    by_cases h4 : ts = hostL g who th
    · rw [if_pos ⟨h3, h4⟩, show partS 0 = ⟨#[]⟩ from rfl]
      obtain ⟨q3, q4⟩ := eq_list ts
      rw [← h4] at HH
      clear h3 h4
      generalize bs tk = K at *
      generalize bs ts = S at *
      generalize bs th = H at *
      generalize bs g = G at *
      go_enter Tryz.func31, Tryz.ntmps31
      go_wp2_with (first
        | (go_at_call 28; (with_reducible refine (HP.out _).mono ?_); rintro e w1 ⟨rfl, b1⟩)
        | (go_at_call 25; (with_reducible refine (HH.out _).mono ?_); rintro e w2 ⟨rfl, b2⟩; have c2 := b1.trans (b2.mono b1.size))
        | fail)
      go_ret
      exact ⟨rfl, c2⟩
    · rw [if_neg (fun hh => h4 hh.2), show partS 2 = ⟨#[115, 105, 103, 110, 97, 116, 117, 114, 101]⟩ from rfl]
      obtain ⟨q3, q4⟩ := ne_list h4
      clear h3 h4
      generalize bs tk = K at *
      generalize bs ts = S at *
      generalize bs (hostL g who th) = RH at *
      generalize bs th = H at *
      generalize bs g = G at *
      go_enter Tryz.func31, Tryz.ntmps31
      go_wp2_with (first
        | (go_at_call 28; (with_reducible refine (HP.out _).mono ?_); rintro e w1 ⟨rfl, b1⟩)
        | (go_at_call 25; (with_reducible refine (HH.out _).mono ?_); rintro e w2 ⟨rfl, b2⟩; have c2 := b1.trans (b2.mono b1.size))
        | fail)
      go_ret
      exact ⟨rfl, c2⟩
  · have hc : hostC g who tk ts th = 1 := if_neg (fun h => h2 (hk.1 h).2)
    rw [hc, show partS 1 = ⟨#[107, 101, 121]⟩ from rfl]
    obtain ⟨q1, q2⟩ := ne_list h2
    clear hk hc h1 h2
    generalize bs (pubL who) = RP at *
    generalize bs tk = K at *
    generalize bs ts = S at *
    generalize bs th = H at *
    generalize bs g = G at *
    go_enter Tryz.func31, Tryz.ntmps31
    go_wp2_with (first
      | (go_at_call 28; (with_reducible refine (HP.out _).mono ?_); rintro e w1 ⟨rfl, b1⟩)
      | fail)
    go_ret
    exact ⟨rfl, b1⟩
end Go.Proofs.YtbnecckgapainaaGreatDoor

namespace Go.Proofs.YtbnecckgapainaaGreatDoor
open Go.RowKit Go.Extern.Stop Go.Stop Go.Extern

set_option maxRecDepth 100000
theorem rl_typeOf24 (v : Value) (w : World) : (Extern.ReflectliteType.typeOf #[.iface 70 v]).run Tryz.prog w = .ok (.iface 225 (.agg #[.pointer (some ⟨4, 70, none⟩)])) w := by kernel_rfl
theorem rl_typeOf37 (v : Value) (w : World) : (Extern.ReflectliteType.typeOf #[.iface 166 v]).run Tryz.prog w = .ok (.iface 225 (.agg #[.pointer (some ⟨4, 166, none⟩)])) w := by kernel_rfl
theorem rl_valueOf73 (p : Option Addr) (w : World) : (Extern.ReflectliteValue.unpack (.iface 181 (.pointer p))).run Tryz.prog w = .ok (.agg #[.pointer (some ⟨4, 181, none⟩), .pointer (some ⟨w.heap.size, 0, none⟩), .int .u64 150]) (w.alloc (.cells #[.pointer p] 181)) := by kernel_rfl
theorem rl_valueOf78 (p : Option Addr) (w : World) : (Extern.ReflectliteValue.unpack (.iface 201 (.pointer p))).run Tryz.prog w = .ok (.agg #[.pointer (some ⟨4, 201, none⟩), .pointer (some ⟨w.heap.size, 0, none⟩), .int .u64 150]) (w.alloc (.cells #[.pointer p] 201)) := by kernel_rfl
theorem rl_valueOf24 (n : Int) (w : World) : (Extern.ReflectliteValue.unpack (.iface 70 (.int .i64 n))).run Tryz.prog w = .ok (.agg #[.pointer (some ⟨4, 70, none⟩), .pointer (some ⟨w.heap.size, 0, none⟩), .int .u64 130]) (w.alloc (.cells #[.int .i64 n] 70)) := by kernel_rfl
theorem rl_valueOf37 (p : Option Addr) (w : World) : (Extern.ReflectliteValue.unpack (.iface 166 (.pointer p))).run Tryz.prog w = .ok (.agg #[.pointer (some ⟨4, 166, none⟩), .pointer (some ⟨w.heap.size, 0, none⟩), .int .u64 150]) (w.alloc (.cells #[.pointer p] 166)) := by kernel_rfl
def fnVType : Array Value → Sem Value := ReflectliteValue.methodAny (ReflectliteValue.valueError "reflectlite.Value.Type" 0) fun t _ _ _ => ReflectliteType.toType t
def fnIsNil : Array Value → Sem Value := ReflectliteValue.method (ReflectliteValue.valueError "reflectlite.Value.IsNil" 0) ReflectliteValue.isNil
def fnVElem : Array Value → Sem Value := ReflectliteValue.method (ReflectliteValue.valueError "reflectlite.Value.Elem" 0) ReflectliteValue.elem
def fnKind : Array Value → Sem Value := ReflectliteType.abiMethod fun t => do pure (.int .u8 (← Rtype.kind t))
theorem rl_type73 (a : Addr) (w : World) : (fnVType #[.agg #[.pointer (some ⟨4, 181, none⟩), .pointer (some a), .int .u64 150]]).run Tryz.prog w = .ok (.iface 225 (.agg #[.pointer (some ⟨4, 181, none⟩)])) w := by kernel_rfl
theorem rl_type78 (a : Addr) (w : World) : (fnVType #[.agg #[.pointer (some ⟨4, 201, none⟩), .pointer (some a), .int .u64 150]]).run Tryz.prog w = .ok (.iface 225 (.agg #[.pointer (some ⟨4, 201, none⟩)])) w := by kernel_rfl
theorem rl_kind73 (w : World) : (fnKind #[.pointer (some ⟨4, 181, none⟩)]).run Tryz.prog w = .ok (.int .u8 22) w := by kernel_rfl
theorem rl_kind78 (w : World) : (fnKind #[.pointer (some ⟨4, 201, none⟩)]).run Tryz.prog w = .ok (.int .u8 22) w := by kernel_rfl
theorem rl_kind24 (w : World) : (fnKind #[.pointer (some ⟨4, 70, none⟩)]).run Tryz.prog w = .ok (.int .u8 2) w := by kernel_rfl
theorem rl_kind37 (w : World) : (fnKind #[.pointer (some ⟨4, 166, none⟩)]).run Tryz.prog w = .ok (.int .u8 22) w := by kernel_rfl
theorem rl_elem73 (w : World) : (ReflectliteType.method ReflectliteType.elem #[.agg #[.pointer (some ⟨4, 181, none⟩)]]).run Tryz.prog w = .ok (.iface 225 (.agg #[.pointer (some ⟨4, 70, none⟩)])) w := by kernel_rfl
theorem rl_elem78 (w : World) : (ReflectliteType.method ReflectliteType.elem #[.agg #[.pointer (some ⟨4, 201, none⟩)]]).run Tryz.prog w = .ok (.iface 225 (.agg #[.pointer (some ⟨4, 166, none⟩)])) w := by kernel_rfl
theorem rl_impl24 (w : World) : (ReflectliteType.relation "Implements" ReflectliteType.implements_ #[.agg #[.pointer (some ⟨4, 70, none⟩)], .iface 225 (.agg #[.pointer (some ⟨4, 68, none⟩)])]).run Tryz.prog w = .ok (.bool true) w := by kernel_rfl
theorem rl_impl37 (w : World) : (ReflectliteType.relation "Implements" ReflectliteType.implements_ #[.agg #[.pointer (some ⟨4, 166, none⟩)], .iface 225 (.agg #[.pointer (some ⟨4, 68, none⟩)])]).run Tryz.prog w = .ok (.bool true) w := by kernel_rfl
theorem rl_asg_nn (w : World) : (ReflectliteType.relation "AssignableTo" ReflectliteType.assignableTo #[.agg #[.pointer (some ⟨4, 70, none⟩)], .iface 225 (.agg #[.pointer (some ⟨4, 70, none⟩)])]).run Tryz.prog w = .ok (.bool true) w := by kernel_rfl
theorem rl_asg_nf (w : World) : (ReflectliteType.relation "AssignableTo" ReflectliteType.assignableTo #[.agg #[.pointer (some ⟨4, 70, none⟩)], .iface 225 (.agg #[.pointer (some ⟨4, 166, none⟩)])]).run Tryz.prog w = .ok (.bool false) w := by kernel_rfl
theorem rl_asg_fn (w : World) : (ReflectliteType.relation "AssignableTo" ReflectliteType.assignableTo #[.agg #[.pointer (some ⟨4, 166, none⟩)], .iface 225 (.agg #[.pointer (some ⟨4, 70, none⟩)])]).run Tryz.prog w = .ok (.bool false) w := by kernel_rfl
theorem rl_asg_ff (w : World) : (ReflectliteType.relation "AssignableTo" ReflectliteType.assignableTo #[.agg #[.pointer (some ⟨4, 166, none⟩)], .iface 225 (.agg #[.pointer (some ⟨4, 166, none⟩)])]).run Tryz.prog w = .ok (.bool true) w := by kernel_rfl
theorem load_k {α : Type} {w : World} {a : Addr} {v : Value} (h : w.cell? a = some v) (k : Value → Sem α) : (Sem.load Mode.plain a k).run Tryz.prog w = (k v).run Tryz.prog w := by
  simp only [Sem.run, h]
def nilK : Value → Sem Value
  | .chan none | .nilFunc | .nilIface | .map none | .pointer none | .slice none _ _ => .pure (.bool true)
  | _ => .pure (.bool false)
theorem rl_isNil73 (a p : Addr) (w : World) (h : w.cell? a = some (.pointer (some p))) : (fnIsNil #[.agg #[.pointer (some ⟨4, 181, none⟩), .pointer (some a), .int .u64 150]]).run Tryz.prog w = .ok (.bool false) w := by
  have e : (fnIsNil #[.agg #[.pointer (some ⟨4, 181, none⟩), .pointer (some a), .int .u64 150]]).run Tryz.prog w = (Sem.load Mode.plain a nilK).run Tryz.prog w := by kernel_rfl
  rw [e, load_k h]
  rfl
theorem rl_isNil78 (a p : Addr) (w : World) (h : w.cell? a = some (.pointer (some p))) : (fnIsNil #[.agg #[.pointer (some ⟨4, 201, none⟩), .pointer (some a), .int .u64 150]]).run Tryz.prog w = .ok (.bool false) w := by
  have e : (fnIsNil #[.agg #[.pointer (some ⟨4, 201, none⟩), .pointer (some a), .int .u64 150]]).run Tryz.prog w = (Sem.load Mode.plain a nilK).run Tryz.prog w := by kernel_rfl
  rw [e, load_k h]
  rfl
theorem store_k {α : Type} {w : World} {a : Addr} {u : Value} (h : w.cell? a = some u) (hz : w.frozen? a = false) (v : Value) (hv : v.oneCell' = true) (k : Sem α) : (Sem.store Mode.plain a v k).run Tryz.prog w = k.run Tryz.prog (w.setCell a v) := by
  cases v <;> first
    | (simp [Value.oneCell'] at hv; done)
    | (simp only [Sem.run, h, hz]; rfl)
def elemK (t : TypeId) (v : Value) : Sem Value := do
  match (22 : Nat), v, ← Rtype.elem? t with
  | 20, i, _ => ReflectliteValue.unpack i
  | 22, .pointer none, _ => pure ReflectliteValue.zeroV
  | 22, .pointer (some p), some e => ReflectliteValue.mk e p ReflectliteValue.flagAddr
  | _, _, _ => ReflectliteValue.valueError "reflectlite.Value.Elem" 22
theorem elemK73 (p : Addr) (w : World) : (elemK 181 (.pointer (some p))).run Tryz.prog w = .ok (.agg #[.pointer (some ⟨4, 70, none⟩), .pointer (some p), .int .u64 386]) w := by kernel_rfl
theorem elemK78 (p : Addr) (w : World) : (elemK 201 (.pointer (some p))).run Tryz.prog w = .ok (.agg #[.pointer (some ⟨4, 166, none⟩), .pointer (some p), .int .u64 406]) w := by kernel_rfl
theorem rl_velem73 (a p : Addr) (w : World) (h : w.cell? a = some (.pointer (some p))) : (fnVElem #[.agg #[.pointer (some ⟨4, 181, none⟩), .pointer (some a), .int .u64 150]]).run Tryz.prog w = .ok (.agg #[.pointer (some ⟨4, 70, none⟩), .pointer (some p), .int .u64 386]) w := by
  have e : (fnVElem #[.agg #[.pointer (some ⟨4, 181, none⟩), .pointer (some a), .int .u64 150]]).run Tryz.prog w = (Sem.load Mode.plain a (elemK 181)).run Tryz.prog w := by kernel_rfl
  rw [e, load_k h, elemK73]
theorem rl_velem78 (a p : Addr) (w : World) (h : w.cell? a = some (.pointer (some p))) : (fnVElem #[.agg #[.pointer (some ⟨4, 201, none⟩), .pointer (some a), .int .u64 150]]).run Tryz.prog w = .ok (.agg #[.pointer (some ⟨4, 166, none⟩), .pointer (some p), .int .u64 406]) w := by
  have e : (fnVElem #[.agg #[.pointer (some ⟨4, 201, none⟩), .pointer (some a), .int .u64 150]]).run Tryz.prog w = (Sem.load Mode.plain a (elemK 201)).run Tryz.prog w := by kernel_rfl
  rw [e, load_k h, elemK78]
theorem rl_vset24 (P a : Nat) (n m : Int) (w : World) (h : w.cell? ⟨a, 0, none⟩ = some (.int .i64 n)) (hP : w.cell? ⟨P, 0, none⟩ = some (.int .i64 m)) (hz : w.frozen? ⟨P, 0, none⟩ = false) :
    (ReflectliteValue.set #[.agg #[.pointer (some ⟨4, 70, none⟩), .pointer (some ⟨P, 0, none⟩), .int .u64 386], .agg #[.pointer (some ⟨4, 70, none⟩), .pointer (some ⟨a, 0, none⟩), .int .u64 130]]).run Tryz.prog w = .ok (.tuple #[]) (w.setCell ⟨P, 0, none⟩ (.int .i64 n)) := by
  have e : (ReflectliteValue.set #[.agg #[.pointer (some ⟨4, 70, none⟩), .pointer (some ⟨P, 0, none⟩), .int .u64 386], .agg #[.pointer (some ⟨4, 70, none⟩), .pointer (some ⟨a, 0, none⟩), .int .u64 130]]).run Tryz.prog w = (Sem.load Mode.plain ⟨a, 0, none⟩ (fun v => do storeVar 70 ⟨P, 0, none⟩ v; pure (.tuple #[]))).run Tryz.prog w := by kernel_rfl
  rw [e, load_k h]
  have e2 : (do storeVar 70 ⟨P, 0, none⟩ (.int .i64 n); pure (.tuple #[]) : Sem Value).run Tryz.prog w = (Sem.store Mode.plain ⟨P, 0, none⟩ (.int .i64 n) (.pure (.tuple #[]))).run Tryz.prog w := by kernel_rfl
  rw [e2, store_k hP hz _ rfl]
  rfl
theorem rl_vset37 (P a : Nat) (p q : Option Addr) (w : World) (h : w.cell? ⟨a, 0, none⟩ = some (.pointer p)) (hP : w.cell? ⟨P, 0, none⟩ = some (.pointer q)) (hz : w.frozen? ⟨P, 0, none⟩ = false) :
    (ReflectliteValue.set #[.agg #[.pointer (some ⟨4, 166, none⟩), .pointer (some ⟨P, 0, none⟩), .int .u64 406], .agg #[.pointer (some ⟨4, 166, none⟩), .pointer (some ⟨a, 0, none⟩), .int .u64 150]]).run Tryz.prog w = .ok (.tuple #[]) (w.setCell ⟨P, 0, none⟩ (.pointer p)) := by
  have e : (ReflectliteValue.set #[.agg #[.pointer (some ⟨4, 166, none⟩), .pointer (some ⟨P, 0, none⟩), .int .u64 406], .agg #[.pointer (some ⟨4, 166, none⟩), .pointer (some ⟨a, 0, none⟩), .int .u64 150]]).run Tryz.prog w = (Sem.load Mode.plain ⟨a, 0, none⟩ (fun v => do storeVar 166 ⟨P, 0, none⟩ v; pure (.tuple #[]))).run Tryz.prog w := by kernel_rfl
  rw [e, load_k h]
  have e2 : (do storeVar 166 ⟨P, 0, none⟩ (.pointer p); pure (.tuple #[]) : Sem Value).run Tryz.prog w = (Sem.store Mode.plain ⟨P, 0, none⟩ (.pointer p) (.pure (.tuple #[]))).run Tryz.prog w := by kernel_rfl
  rw [e2, store_k hP hz _ rfl]
  rfl
end Go.Proofs.YtbnecckgapainaaGreatDoor
