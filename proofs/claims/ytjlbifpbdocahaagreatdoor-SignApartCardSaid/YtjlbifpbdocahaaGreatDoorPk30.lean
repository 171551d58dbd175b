/- Part 30 of what the statement wants. -/
import Derived.Test.YtjlbifpbdocahaaGreatDoorChecked
import Derived.LaidEql
import Derived.Stop.Asserts
import Derived.RowKitTokens
import Derived.Test.YtjlbifpbdocahaaGreatDoorPk00
import Derived.Test.YtjlbifpbdocahaaGreatDoorPk27
namespace Go.Proofs.YtjlbifpbdocahaaGreatDoor
open Go.RowKit Go.Extern.Stop Go.Stop Go.Extern

set_option maxRecDepth 100000
theorem rl_typeOf24 (v : Value) (w : World) : (Extern.ReflectliteType.typeOf #[.iface 52 v]).run Tryz.prog w = .ok (.iface 230 (.agg #[.pointer (some ⟨4, 52, none⟩)])) w := by kernel_rfl
theorem rl_typeOf37 (v : Value) (w : World) : (Extern.ReflectliteType.typeOf #[.iface 156 v]).run Tryz.prog w = .ok (.iface 230 (.agg #[.pointer (some ⟨4, 156, none⟩)])) w := by kernel_rfl
theorem rl_valueOf73 (p : Option Addr) (w : World) : (Extern.ReflectliteValue.unpack (.iface 185 (.pointer p))).run Tryz.prog w = .ok (.agg #[.pointer (some ⟨4, 185, none⟩), .pointer (some ⟨w.heap.size, 0, none⟩), .int .u64 150]) (w.alloc (.cells #[.pointer p] 185)) := by kernel_rfl
theorem rl_valueOf78 (p : Option Addr) (w : World) : (Extern.ReflectliteValue.unpack (.iface 201 (.pointer p))).run Tryz.prog w = .ok (.agg #[.pointer (some ⟨4, 201, none⟩), .pointer (some ⟨w.heap.size, 0, none⟩), .int .u64 150]) (w.alloc (.cells #[.pointer p] 201)) := by kernel_rfl
theorem rl_valueOf24 (n : Int) (w : World) : (Extern.ReflectliteValue.unpack (.iface 52 (.int .i64 n))).run Tryz.prog w = .ok (.agg #[.pointer (some ⟨4, 52, none⟩), .pointer (some ⟨w.heap.size, 0, none⟩), .int .u64 130]) (w.alloc (.cells #[.int .i64 n] 52)) := by kernel_rfl
theorem rl_valueOf37 (p : Option Addr) (w : World) : (Extern.ReflectliteValue.unpack (.iface 156 (.pointer p))).run Tryz.prog w = .ok (.agg #[.pointer (some ⟨4, 156, none⟩), .pointer (some ⟨w.heap.size, 0, none⟩), .int .u64 150]) (w.alloc (.cells #[.pointer p] 156)) := by kernel_rfl
def fnVType : Array Value → Sem Value := ReflectliteValue.methodAny (ReflectliteValue.valueError "reflectlite.Value.Type" 0) fun t _ _ _ => ReflectliteType.toType t
def fnIsNil : Array Value → Sem Value := ReflectliteValue.method (ReflectliteValue.valueError "reflectlite.Value.IsNil" 0) ReflectliteValue.isNil
def fnVElem : Array Value → Sem Value := ReflectliteValue.method (ReflectliteValue.valueError "reflectlite.Value.Elem" 0) ReflectliteValue.elem
def fnKind : Array Value → Sem Value := ReflectliteType.abiMethod fun t => do pure (.int .u8 (← Rtype.kind t))
theorem rl_type73 (a : Addr) (w : World) : (fnVType #[.agg #[.pointer (some ⟨4, 185, none⟩), .pointer (some a), .int .u64 150]]).run Tryz.prog w = .ok (.iface 230 (.agg #[.pointer (some ⟨4, 185, none⟩)])) w := by kernel_rfl
theorem rl_type78 (a : Addr) (w : World) : (fnVType #[.agg #[.pointer (some ⟨4, 201, none⟩), .pointer (some a), .int .u64 150]]).run Tryz.prog w = .ok (.iface 230 (.agg #[.pointer (some ⟨4, 201, none⟩)])) w := by kernel_rfl
theorem rl_kind73 (w : World) : (fnKind #[.pointer (some ⟨4, 185, none⟩)]).run Tryz.prog w = .ok (.int .u8 22) w := by kernel_rfl
theorem rl_kind78 (w : World) : (fnKind #[.pointer (some ⟨4, 201, none⟩)]).run Tryz.prog w = .ok (.int .u8 22) w := by kernel_rfl
theorem rl_kind24 (w : World) : (fnKind #[.pointer (some ⟨4, 52, none⟩)]).run Tryz.prog w = .ok (.int .u8 2) w := by kernel_rfl
theorem rl_kind37 (w : World) : (fnKind #[.pointer (some ⟨4, 156, none⟩)]).run Tryz.prog w = .ok (.int .u8 22) w := by kernel_rfl
theorem rl_elem73 (w : World) : (ReflectliteType.method ReflectliteType.elem #[.agg #[.pointer (some ⟨4, 185, none⟩)]]).run Tryz.prog w = .ok (.iface 230 (.agg #[.pointer (some ⟨4, 52, none⟩)])) w := by kernel_rfl
theorem rl_elem78 (w : World) : (ReflectliteType.method ReflectliteType.elem #[.agg #[.pointer (some ⟨4, 201, none⟩)]]).run Tryz.prog w = .ok (.iface 230 (.agg #[.pointer (some ⟨4, 156, none⟩)])) w := by kernel_rfl
theorem rl_impl24 (w : World) : (ReflectliteType.relation "Implements" ReflectliteType.implements_ #[.agg #[.pointer (some ⟨4, 52, none⟩)], .iface 230 (.agg #[.pointer (some ⟨4, 50, none⟩)])]).run Tryz.prog w = .ok (.bool true) w := by kernel_rfl
theorem rl_impl37 (w : World) : (ReflectliteType.relation "Implements" ReflectliteType.implements_ #[.agg #[.pointer (some ⟨4, 156, none⟩)], .iface 230 (.agg #[.pointer (some ⟨4, 50, none⟩)])]).run Tryz.prog w = .ok (.bool true) w := by kernel_rfl
theorem rl_asg_nn (w : World) : (ReflectliteType.relation "AssignableTo" ReflectliteType.assignableTo #[.agg #[.pointer (some ⟨4, 52, none⟩)], .iface 230 (.agg #[.pointer (some ⟨4, 52, none⟩)])]).run Tryz.prog w = .ok (.bool true) w := by kernel_rfl
theorem rl_asg_nf (w : World) : (ReflectliteType.relation "AssignableTo" ReflectliteType.assignableTo #[.agg #[.pointer (some ⟨4, 52, none⟩)], .iface 230 (.agg #[.pointer (some ⟨4, 156, none⟩)])]).run Tryz.prog w = .ok (.bool false) w := by kernel_rfl
theorem rl_asg_fn (w : World) : (ReflectliteType.relation "AssignableTo" ReflectliteType.assignableTo #[.agg #[.pointer (some ⟨4, 156, none⟩)], .iface 230 (.agg #[.pointer (some ⟨4, 52, none⟩)])]).run Tryz.prog w = .ok (.bool false) w := by kernel_rfl
theorem rl_asg_ff (w : World) : (ReflectliteType.relation "AssignableTo" ReflectliteType.assignableTo #[.agg #[.pointer (some ⟨4, 156, none⟩)], .iface 230 (.agg #[.pointer (some ⟨4, 156, none⟩)])]).run Tryz.prog w = .ok (.bool true) w := by kernel_rfl
theorem load_k {α : Type} {w : World} {a : Addr} {v : Value} (h : w.cell? a = some v) (k : Value → Sem α) : (Sem.load Mode.plain a k).run Tryz.prog w = (k v).run Tryz.prog w := by
  simp only [Sem.run, h]
def nilK : Value → Sem Value
  | .chan none | .nilFunc | .nilIface | .map none | .pointer none | .slice none _ _ => .pure (.bool true)
  | _ => .pure (.bool false)
theorem rl_isNil73 (a p : Addr) (w : World) (h : w.cell? a = some (.pointer (some p))) : (fnIsNil #[.agg #[.pointer (some ⟨4, 185, none⟩), .pointer (some a), .int .u64 150]]).run Tryz.prog w = .ok (.bool false) w := by
  have e : (fnIsNil #[.agg #[.pointer (some ⟨4, 185, none⟩), .pointer (some a), .int .u64 150]]).run Tryz.prog w = (Sem.load Mode.plain a nilK).run Tryz.prog w := by kernel_rfl
  rw [e, load_k h]
  rfl
theorem rl_isNil78 (a p : Addr) (w : World) (h : w.cell? a = some (.pointer (some p))) : (fnIsNil #[.agg #[.pointer (some ⟨4, 201, none⟩), .pointer (some a), .int .u64 150]]).run Tryz.prog w = .ok (.bool false) w := by
  have e : (fnIsNil #[.agg #[.pointer (some ⟨4, 201, none⟩), .pointer (some a), .int .u64 150]]).run Tryz.prog w = (Sem.load Mode.plain a nilK).run Tryz.prog w := by kernel_rfl
  rw [e, load_k h]
  rfl
theorem store_k {α : Type} {w : World} {a : Addr} {u : Value} (h : w.cell? a = some u) (hz : w.frozen? a = false) (v : Value) (hv : v.oneCell' = true) (k : Sem α) : (Sem.store Mode.plain a v k).run Tryz.prog w = k.run Tryz.prog (w.setCell a v) := by
  cases v <;> first
    | (simp [Value.oneCell'] at hv; done)
    | (simp only [Sem.run, h, hz]; rfl)
def elemK (t : TypeId) (v : Value) : Sem Value := do
  match (22 : Nat), v, ← Rtype.elem? t with
  | 20, i, _ => ReflectliteValue.unpack i
  | 22, .pointer none, _ => pure ReflectliteValue.zeroV
  | 22, .pointer (some p), some e => ReflectliteValue.mk e p ReflectliteValue.flagAddr
  | _, _, _ => ReflectliteValue.valueError "reflectlite.Value.Elem" 22
theorem elemK73 (p : Addr) (w : World) : (elemK 185 (.pointer (some p))).run Tryz.prog w = .ok (.agg #[.pointer (some ⟨4, 52, none⟩), .pointer (some p), .int .u64 386]) w := by kernel_rfl
theorem elemK78 (p : Addr) (w : World) : (elemK 201 (.pointer (some p))).run Tryz.prog w = .ok (.agg #[.pointer (some ⟨4, 156, none⟩), .pointer (some p), .int .u64 406]) w := by kernel_rfl
theorem rl_velem73 (a p : Addr) (w : World) (h : w.cell? a = some (.pointer (some p))) : (fnVElem #[.agg #[.pointer (some ⟨4, 185, none⟩), .pointer (some a), .int .u64 150]]).run Tryz.prog w = .ok (.agg #[.pointer (some ⟨4, 52, none⟩), .pointer (some p), .int .u64 386]) w := by
  have e : (fnVElem #[.agg #[.pointer (some ⟨4, 185, none⟩), .pointer (some a), .int .u64 150]]).run Tryz.prog w = (Sem.load Mode.plain a (elemK 185)).run Tryz.prog w := by kernel_rfl
  rw [e, load_k h, elemK73]
theorem rl_velem78 (a p : Addr) (w : World) (h : w.cell? a = some (.pointer (some p))) : (fnVElem #[.agg #[.pointer (some ⟨4, 201, none⟩), .pointer (some a), .int .u64 150]]).run Tryz.prog w = .ok (.agg #[.pointer (some ⟨4, 156, none⟩), .pointer (some p), .int .u64 406]) w := by
  have e : (fnVElem #[.agg #[.pointer (some ⟨4, 201, none⟩), .pointer (some a), .int .u64 150]]).run Tryz.prog w = (Sem.load Mode.plain a (elemK 201)).run Tryz.prog w := by kernel_rfl
  rw [e, load_k h, elemK78]
theorem rl_vset24 (P a : Nat) (n m : Int) (w : World) (h : w.cell? ⟨a, 0, none⟩ = some (.int .i64 n)) (hP : w.cell? ⟨P, 0, none⟩ = some (.int .i64 m)) (hz : w.frozen? ⟨P, 0, none⟩ = false) :
    (ReflectliteValue.set #[.agg #[.pointer (some ⟨4, 52, none⟩), .pointer (some ⟨P, 0, none⟩), .int .u64 386], .agg #[.pointer (some ⟨4, 52, none⟩), .pointer (some ⟨a, 0, none⟩), .int .u64 130]]).run Tryz.prog w = .ok (.tuple #[]) (w.setCell ⟨P, 0, none⟩ (.int .i64 n)) := by
  have e : (ReflectliteValue.set #[.agg #[.pointer (some ⟨4, 52, none⟩), .pointer (some ⟨P, 0, none⟩), .int .u64 386], .agg #[.pointer (some ⟨4, 52, none⟩), .pointer (some ⟨a, 0, none⟩), .int .u64 130]]).run Tryz.prog w = (Sem.load Mode.plain ⟨a, 0, none⟩ (fun v => do storeVar 52 ⟨P, 0, none⟩ v; pure (.tuple #[]))).run Tryz.prog w := by kernel_rfl
  rw [e, load_k h]
  have e2 : (do storeVar 52 ⟨P, 0, none⟩ (.int .i64 n); pure (.tuple #[]) : Sem Value).run Tryz.prog w = (Sem.store Mode.plain ⟨P, 0, none⟩ (.int .i64 n) (.pure (.tuple #[]))).run Tryz.prog w := by kernel_rfl
  rw [e2, store_k hP hz _ rfl]
  rfl
theorem rl_vset37 (P a : Nat) (p q : Option Addr) (w : World) (h : w.cell? ⟨a, 0, none⟩ = some (.pointer p)) (hP : w.cell? ⟨P, 0, none⟩ = some (.pointer q)) (hz : w.frozen? ⟨P, 0, none⟩ = false) :
    (ReflectliteValue.set #[.agg #[.pointer (some ⟨4, 156, none⟩), .pointer (some ⟨P, 0, none⟩), .int .u64 406], .agg #[.pointer (some ⟨4, 156, none⟩), .pointer (some ⟨a, 0, none⟩), .int .u64 150]]).run Tryz.prog w = .ok (.tuple #[]) (w.setCell ⟨P, 0, none⟩ (.pointer p)) := by
  have e : (ReflectliteValue.set #[.agg #[.pointer (some ⟨4, 156, none⟩), .pointer (some ⟨P, 0, none⟩), .int .u64 406], .agg #[.pointer (some ⟨4, 156, none⟩), .pointer (some ⟨a, 0, none⟩), .int .u64 150]]).run Tryz.prog w = (Sem.load Mode.plain ⟨a, 0, none⟩ (fun v => do storeVar 156 ⟨P, 0, none⟩ v; pure (.tuple #[]))).run Tryz.prog w := by kernel_rfl
  rw [e, load_k h]
  have e2 : (do storeVar 156 ⟨P, 0, none⟩ (.pointer p); pure (.tuple #[]) : Sem Value).run Tryz.prog w = (Sem.store Mode.plain ⟨P, 0, none⟩ (.pointer p) (.pure (.tuple #[]))).run Tryz.prog w := by kernel_rfl
  rw [e2, store_k hP hz _ rfl]
  rfl
end Go.Proofs.YtjlbifpbdocahaaGreatDoor

namespace Go.Proofs.YtjlbifpbdocahaaGreatDoor
open Go.RowKit Go.Extern.Stop Go.Stop Go.Extern

theorem fUnwrap_any {w : World} {b : Nat} {v : Value} (h : w.cell? ⟨b, 1, none⟩ = some v) : Calls Tryz.prog 222 #[.pointer (some ⟨b, 0, none⟩)] w fun e w' => e = .returned v ∧ w' = w := by
  go_enter Tryz.func222, Tryz.ntmps222
  go_wp2_with fail
  go_ret
  exact ⟨rfl, rfl⟩
set_option maxRecDepth 100000 in
theorem no_As24 (v : Value) (xT : TypeId) (w : World) : (Instr.typeAssert (.iface 52 v) xT 235 true).run Tryz.prog w = .ok (.tuple #[.nilIface, .bool false]) w := run_typeAssert_lacksB Tryz.underlying235 (by kernel_rfl) (by kernel_rfl) v xT w
set_option maxRecDepth 100000 in
theorem no_As37 (v : Value) (xT : TypeId) (w : World) : (Instr.typeAssert (.iface 156 v) xT 235 true).run Tryz.prog w = .ok (.tuple #[.nilIface, .bool false]) w := run_typeAssert_lacksB Tryz.underlying235 (by kernel_rfl) (by kernel_rfl) v xT w
set_option maxRecDepth 100000 in
theorem no_Unwrap24 (v : Value) (xT : TypeId) (w : World) : (Instr.typeAssert (.iface 52 v) xT 238 true).run Tryz.prog w = .ok (.tuple #[.nilIface, .bool false]) w := run_typeAssert_lacksB Tryz.underlying238 (by kernel_rfl) (by kernel_rfl) v xT w
set_option maxRecDepth 100000 in
theorem no_Unwraps24 (v : Value) (xT : TypeId) (w : World) : (Instr.typeAssert (.iface 52 v) xT 239 true).run Tryz.prog w = .ok (.tuple #[.nilIface, .bool false]) w := run_typeAssert_lacksB Tryz.underlying239 (by kernel_rfl) (by kernel_rfl) v xT w
set_option maxRecDepth 100000 in
theorem has_Unwrap37 (v : Value) (xT : TypeId) (w : World) : (Instr.typeAssert (.iface 156 v) xT 238 true).run Tryz.prog w = .ok (.tuple #[.iface 156 v, .bool true]) w := run_typeAssert_hasB Tryz.underlying238 (by kernel_rfl) v xT w

set_option maxRecDepth 100000 in
theorem meth_assign (v : Value) (w : World) : (Go.method 383 230 v "AssignableTo").run Tryz.prog w = .ok (227, v) w := by kernel_rfl
set_option maxRecDepth 100000 in
theorem meth_elem (v : Value) (w : World) : (Go.method 383 230 v "Elem").run Tryz.prog w = .ok (229, v) w := by kernel_rfl
set_option maxRecDepth 100000 in
theorem meth_impl (v : Value) (w : World) : (Go.method 383 230 v "Implements").run Tryz.prog w = .ok (230, v) w := by kernel_rfl
set_option maxRecDepth 100000 in
theorem meth_kind (t : Nat) (w : World) : (Go.method 383 230 (.agg #[.pointer (some ⟨4, t, none⟩)]) "Kind").run Tryz.prog w = .ok (216, .pointer (some ⟨4, t, none⟩)) w := by kernel_rfl
set_option maxRecDepth 100000 in
theorem meth_unwrap (v : Value) (w : World) : (Go.method 383 156 v "Unwrap").run Tryz.prog w = .ok (222, v) w := by kernel_rfl

set_option maxRecDepth 100000 in
theorem as_num {w : World} {v : Value} {path : List ByteArray} {n : Option Int} (hv : ErrAt w v path n) (hne : v ≠ .nilIface) {P a : Nat} {m : Int} (hP : Holds w P 52 #[.int .i64 m]) (ha : w.cell? ⟨a, 0, none⟩ = some (.pointer (some ⟨P, 0, none⟩))) :
    Calls Tryz.prog 170 #[v, .iface 185 (.pointer (some ⟨P, 0, none⟩)), .agg #[.pointer (some ⟨4, 185, none⟩), .pointer (some ⟨a, 0, none⟩), .int .u64 150], .iface 230 (.agg #[.pointer (some ⟨4, 52, none⟩)])] w fun r w' => r = .returned (.bool n.isSome) ∧ Holds w' P 52 #[.int .i64 (n.getD m)] ∧ Moves (fun k => k = P) w w' := by
  have h45 := @run_callFunc_extern Tryz.prog 190 _ Extern.ReflectliteType.typeOf Tryz.func190 (by kernel_rfl) (by kernel_rfl) (by kernel_rfl) (by kernel_rfl)
  have h51 := @run_callFunc_extern Tryz.prog 167 _ (fun args => Extern.ReflectliteValue.unpack (args.getD 0 (.tuple #[]))) Tryz.func167 (by kernel_rfl) (by kernel_rfl) (by kernel_rfl) (by kernel_rfl)
  have h57 := @run_callFunc_extern Tryz.prog 191 _ fnVElem Tryz.func191 (by kernel_rfl) (by kernel_rfl) (by kernel_rfl) (by kernel_rfl)
  have h58 := @run_callFunc_extern Tryz.prog 192 _ Extern.ReflectliteValue.set Tryz.func192 (by kernel_rfl) (by kernel_rfl) (by kernel_rfl) (by kernel_rfl)
  have h83 := @run_callFunc_extern Tryz.prog 227 _ (Extern.ReflectliteType.relation "AssignableTo" Extern.ReflectliteType.assignableTo) Tryz.func227 (by kernel_rfl) (by kernel_rfl) (by kernel_rfl) (by kernel_rfl)
  have t24 := rl_typeOf24
  have t37 := rl_typeOf37
  have a1 := rl_asg_nn
  have a2 := rl_asg_fn
  have v24 := rl_valueOf24
  have u1 := no_As37
  have u2 := has_Unwrap37
  have m1 := meth_assign
  have m2 := meth_unwrap
  have hv0 : ErrAt (w.alloc (.cells #[.pointer (some ⟨4, 185, none⟩), .pointer (some ⟨a, 0, none⟩), .int .u64 150] 205)) v path n := hv.later ((Below.refl _ _).alloc (Nat.le_refl _) _)
  have hP0 : Holds (w.alloc (.cells #[.pointer (some ⟨4, 185, none⟩), .pointer (some ⟨a, 0, none⟩), .int .u64 150] 205)) P 52 #[.int .i64 m] := hP.moves ((Moves.refl nobody _).alloc _) (fun h => h)
  have ha0 : (w.alloc (.cells #[.pointer (some ⟨4, 185, none⟩), .pointer (some ⟨a, 0, none⟩), .int .u64 150] 205)).cell? ⟨a, 0, none⟩ = some (.pointer (some ⟨P, 0, none⟩)) := (((Below.refl w.heap.size w).alloc (Nat.le_refl _) _).cell (p := ⟨a, 0, none⟩) (World.block_lt_of_cell? w _ ha)).trans ha
  have hb0 : Holds (w.alloc (.cells #[.pointer (some ⟨4, 185, none⟩), .pointer (some ⟨a, 0, none⟩), .int .u64 150] 205)) w.heap.size 205 #[.pointer (some ⟨4, 185, none⟩), .pointer (some ⟨a, 0, none⟩), .int .u64 150] := Holds.new w _ _
  have hm0 : Moves (fun k => k = P) w (w.alloc (.cells #[.pointer (some ⟨4, 185, none⟩), .pointer (some ⟨a, 0, none⟩), .int .u64 150] 205)) := (Moves.refl _ _).alloc _
  have HV := Lib.hid hv0
  have HPs := Lib.hid hP0
  have HAs := Lib.hid ha0
  have HBs := Lib.hid hb0
  have HMs := Lib.hid hm0
  clear hv hP ha hv0 hP0 ha0 hb0 hm0
  go_enter Tryz.func170, Tryz.ntmps170
  go_wp2_with fail
  generalize w.alloc (.cells #[.pointer (some ⟨4, 185, none⟩), .pointer (some ⟨a, 0, none⟩), .int .u64 150] 205) = W0 at *
  generalize w.heap.size = N0 at *
  have b0 := HBs.out.cell 0
  have b1 := HBs.out.cell 1
  have b2 := HBs.out.cell 2
  simp only [List.getElem?_toArray, List.getElem?_cons_zero, List.getElem?_cons_succ] at b0 b1 b2
  have HNE := Lib.hid hne
  clear hne
  go_loopw [0] (fun u wr => ∃ p, ErrAt W0 u p n ∧ u ≠ .nilIface ∧ wr = W0) (fun u wr => depthAt wr u)
  case atStart => exact ⟨path, HV.out, HNE.out, rfl⟩
  case round =>
    obtain ⟨p, hu, hun, rfl⟩ := hrel
    cases hu with
    | none => exact absurd rfl hun
    | num e =>
      have e1 := rl_velem73 ⟨a, 0, none⟩ ⟨P, 0, none⟩ wr HAs.out
      have hPn : Holds (wr.alloc (.cells #[.int .i64 e] 52)) P 52 #[.int .i64 m] := HPs.out.moves ((Moves.refl nobody _).alloc _) (fun h => h)
      have s1 := rl_vset24 P wr.heap.size e m (wr.alloc (.cells #[.int .i64 e] 52)) ((Holds.new wr 52 #[.int .i64 e]).cell 0) (by simpa using hPn.cell 0) (hPn.frozen 0)
      have hS := Lib.hid (Holds.set hPn 0 (.int .i64 e))
      have hM := Lib.hid ((HMs.out.alloc (.cells #[.int .i64 e] 52)).setCell (p := ⟨P, 0, none⟩) (.inl rfl) (.int .i64 e))
      clear hPn
      go_wp2_with fail
      go_ret
      exact ⟨rfl, hS.out, hM.out⟩
    | @fault b x v1 path1 n1 k1 k2 k3 k4 =>
      have hdep := ErrAt.depth (ErrAt.fault k1 k2 k3 k4)
      have K4 := Lib.hid k4
      clear k1 k4
      cases v1 with
      | nilIface =>
        have hnn : Hid (n = none) := by
          have := K4.out
          cases this; rfl
        go_wp2_with (go_at_call 222; refine (fUnwrap_any k3).mono ?_; rintro e w1 ⟨rfl, hw⟩; subst hw)
        go_ret
        exact ⟨by rw [hnn.out]; rfl, by rw [hnn.out]; exact HPs.out, HMs.out⟩
      | iface t0 v0 =>
        go_wp2_with (go_at_call 222; refine (fUnwrap_any k3).mono ?_; rintro e w1 ⟨rfl, hw⟩; subst hw)
        exact ⟨⟨path1, K4.out, by simp, trivial⟩, by rw [K4.out.depth, hdep]; simp⟩
      | _ =>
        exfalso
        have := K4.out
        cases this
end Go.Proofs.YtjlbifpbdocahaaGreatDoor
