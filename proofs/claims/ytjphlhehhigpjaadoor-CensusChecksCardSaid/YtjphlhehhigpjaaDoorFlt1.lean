/- errors.As by Go's own text: what its steps give over the project's two kinds of errors. -/
import Derived.Test.YtjphlhehhigpjaaDoorMem
import Derived.Test.YtjphlhehhigpjaaDoorChecked
import Derived.LaidEql
import Derived.Stop.Asserts
import Derived.RowKitTokens
namespace Go.Proofs.YtjphlhehhigpjaaDoor
open Go.RowKit Go.Extern.Stop Go.Stop Go.Extern

/-- The handle of a type, as reflectlite has it. -/
def typeV (t : TypeId) : Value := .iface 141 (.agg #[.pointer (some ⟨2, t, none⟩)])
def valV (t : TypeId) (a : Addr) (fl : Int) : Value := .agg #[.pointer (some ⟨2, t, none⟩), .pointer (some a), .int .u64 fl]
set_option maxRecDepth 100000
theorem rl_typeOf24 (v : Value) (w : World) : (Extern.ReflectliteType.typeOf #[.iface 42 v]).run Tryd.prog w = .ok (.iface 141 (.agg #[.pointer (some ⟨2, 42, none⟩)])) w := by kernel_rfl
theorem rl_typeOf37 (v : Value) (w : World) : (Extern.ReflectliteType.typeOf #[.iface 102 v]).run Tryd.prog w = .ok (.iface 141 (.agg #[.pointer (some ⟨2, 102, none⟩)])) w := by kernel_rfl
theorem rl_valueOf73 (p : Option Addr) (w : World) : (Extern.ReflectliteValue.unpack (.iface 109 (.pointer p))).run Tryd.prog w = .ok (.agg #[.pointer (some ⟨2, 109, none⟩), .pointer (some ⟨w.heap.size, 0, none⟩), .int .u64 150]) (w.alloc (.cells #[.pointer p] 109)) := by kernel_rfl
theorem rl_valueOf78 (p : Option Addr) (w : World) : (Extern.ReflectliteValue.unpack (.iface 121 (.pointer p))).run Tryd.prog w = .ok (.agg #[.pointer (some ⟨2, 121, none⟩), .pointer (some ⟨w.heap.size, 0, none⟩), .int .u64 150]) (w.alloc (.cells #[.pointer p] 121)) := by kernel_rfl
theorem rl_valueOf24 (n : Int) (w : World) : (Extern.ReflectliteValue.unpack (.iface 42 (.int .i64 n))).run Tryd.prog w = .ok (.agg #[.pointer (some ⟨2, 42, none⟩), .pointer (some ⟨w.heap.size, 0, none⟩), .int .u64 130]) (w.alloc (.cells #[.int .i64 n] 42)) := by kernel_rfl
theorem rl_valueOf37 (p : Option Addr) (w : World) : (Extern.ReflectliteValue.unpack (.iface 102 (.pointer p))).run Tryd.prog w = .ok (.agg #[.pointer (some ⟨2, 102, none⟩), .pointer (some ⟨w.heap.size, 0, none⟩), .int .u64 150]) (w.alloc (.cells #[.pointer p] 102)) := by kernel_rfl
def fnVType : Array Value → Sem Value := ReflectliteValue.methodAny (ReflectliteValue.valueError "reflectlite.Value.Type" 0) fun t _ _ _ => ReflectliteType.toType t
def fnIsNil : Array Value → Sem Value := ReflectliteValue.method (ReflectliteValue.valueError "reflectlite.Value.IsNil" 0) ReflectliteValue.isNil
def fnVElem : Array Value → Sem Value := ReflectliteValue.method (ReflectliteValue.valueError "reflectlite.Value.Elem" 0) ReflectliteValue.elem
def fnKind : Array Value → Sem Value := ReflectliteType.abiMethod fun t => do pure (.int .u8 (← Rtype.kind t))
theorem rl_type73 (a : Addr) (w : World) : (fnVType #[.agg #[.pointer (some ⟨2, 109, none⟩), .pointer (some a), .int .u64 150]]).run Tryd.prog w = .ok (.iface 141 (.agg #[.pointer (some ⟨2, 109, none⟩)])) w := by kernel_rfl
theorem rl_type78 (a : Addr) (w : World) : (fnVType #[.agg #[.pointer (some ⟨2, 121, none⟩), .pointer (some a), .int .u64 150]]).run Tryd.prog w = .ok (.iface 141 (.agg #[.pointer (some ⟨2, 121, none⟩)])) w := by kernel_rfl
theorem rl_kind73 (w : World) : (fnKind #[.pointer (some ⟨2, 109, none⟩)]).run Tryd.prog w = .ok (.int .u8 22) w := by kernel_rfl
theorem rl_kind78 (w : World) : (fnKind #[.pointer (some ⟨2, 121, none⟩)]).run Tryd.prog w = .ok (.int .u8 22) w := by kernel_rfl
theorem rl_kind24 (w : World) : (fnKind #[.pointer (some ⟨2, 42, none⟩)]).run Tryd.prog w = .ok (.int .u8 2) w := by kernel_rfl
theorem rl_kind37 (w : World) : (fnKind #[.pointer (some ⟨2, 102, none⟩)]).run Tryd.prog w = .ok (.int .u8 22) w := by kernel_rfl
theorem rl_elem73 (w : World) : (ReflectliteType.method ReflectliteType.elem #[.agg #[.pointer (some ⟨2, 109, none⟩)]]).run Tryd.prog w = .ok (.iface 141 (.agg #[.pointer (some ⟨2, 42, none⟩)])) w := by kernel_rfl
theorem rl_elem78 (w : World) : (ReflectliteType.method ReflectliteType.elem #[.agg #[.pointer (some ⟨2, 121, none⟩)]]).run Tryd.prog w = .ok (.iface 141 (.agg #[.pointer (some ⟨2, 102, none⟩)])) w := by kernel_rfl
theorem rl_impl24 (w : World) : (ReflectliteType.relation "Implements" ReflectliteType.implements_ #[.agg #[.pointer (some ⟨2, 42, none⟩)], .iface 141 (.agg #[.pointer (some ⟨2, 38, none⟩)])]).run Tryd.prog w = .ok (.bool true) w := by kernel_rfl
theorem rl_impl37 (w : World) : (ReflectliteType.relation "Implements" ReflectliteType.implements_ #[.agg #[.pointer (some ⟨2, 102, none⟩)], .iface 141 (.agg #[.pointer (some ⟨2, 38, none⟩)])]).run Tryd.prog w = .ok (.bool true) w := by kernel_rfl
theorem rl_asg_nn (w : World) : (ReflectliteType.relation "AssignableTo" ReflectliteType.assignableTo #[.agg #[.pointer (some ⟨2, 42, none⟩)], .iface 141 (.agg #[.pointer (some ⟨2, 42, none⟩)])]).run Tryd.prog w = .ok (.bool true) w := by kernel_rfl
theorem rl_asg_nf (w : World) : (ReflectliteType.relation "AssignableTo" ReflectliteType.assignableTo #[.agg #[.pointer (some ⟨2, 42, none⟩)], .iface 141 (.agg #[.pointer (some ⟨2, 102, none⟩)])]).run Tryd.prog w = .ok (.bool false) w := by kernel_rfl
theorem rl_asg_fn (w : World) : (ReflectliteType.relation "AssignableTo" ReflectliteType.assignableTo #[.agg #[.pointer (some ⟨2, 102, none⟩)], .iface 141 (.agg #[.pointer (some ⟨2, 42, none⟩)])]).run Tryd.prog w = .ok (.bool false) w := by kernel_rfl
theorem rl_asg_ff (w : World) : (ReflectliteType.relation "AssignableTo" ReflectliteType.assignableTo #[.agg #[.pointer (some ⟨2, 102, none⟩)], .iface 141 (.agg #[.pointer (some ⟨2, 102, none⟩)])]).run Tryd.prog w = .ok (.bool true) w := by kernel_rfl
theorem load_k {α : Type} {w : World} {a : Addr} {v : Value} (h : w.cell? a = some v) (k : Value → Sem α) : (Sem.load Mode.plain a k).run Tryd.prog w = (k v).run Tryd.prog w := by
  simp only [Sem.run, h]
def nilK : Value → Sem Value
  | .chan none | .nilFunc | .nilIface | .map none | .pointer none | .slice none _ _ => .pure (.bool true)
  | _ => .pure (.bool false)
theorem rl_isNil73 (a p : Addr) (w : World) (h : w.cell? a = some (.pointer (some p))) : (fnIsNil #[.agg #[.pointer (some ⟨2, 109, none⟩), .pointer (some a), .int .u64 150]]).run Tryd.prog w = .ok (.bool false) w := by
  have e : (fnIsNil #[.agg #[.pointer (some ⟨2, 109, none⟩), .pointer (some a), .int .u64 150]]).run Tryd.prog w = (Sem.load Mode.plain a nilK).run Tryd.prog w := by kernel_rfl
  rw [e, load_k h]
  rfl
theorem rl_isNil78 (a p : Addr) (w : World) (h : w.cell? a = some (.pointer (some p))) : (fnIsNil #[.agg #[.pointer (some ⟨2, 121, none⟩), .pointer (some a), .int .u64 150]]).run Tryd.prog w = .ok (.bool false) w := by
  have e : (fnIsNil #[.agg #[.pointer (some ⟨2, 121, none⟩), .pointer (some a), .int .u64 150]]).run Tryd.prog w = (Sem.load Mode.plain a nilK).run Tryd.prog w := by kernel_rfl
  rw [e, load_k h]
  rfl
theorem store_k {α : Type} {w : World} {a : Addr} {u : Value} (h : w.cell? a = some u) (hz : w.frozen? a = false) (v : Value) (hv : v.oneCell' = true) (k : Sem α) : (Sem.store Mode.plain a v k).run Tryd.prog w = k.run Tryd.prog (w.setCell a v) := by
  cases v <;> first
    | (simp [Value.oneCell'] at hv; done)
    | (simp only [Sem.run, h, hz]; rfl)
def elemK (t : TypeId) (v : Value) : Sem Value := do
  match (22 : Nat), v, ← Rtype.elem? t with
  | 20, i, _ => ReflectliteValue.unpack i
  | 22, .pointer none, _ => pure ReflectliteValue.zeroV
  | 22, .pointer (some p), some e => ReflectliteValue.mk e p ReflectliteValue.flagAddr
  | _, _, _ => ReflectliteValue.valueError "reflectlite.Value.Elem" 22
theorem elemK73 (p : Addr) (w : World) : (elemK 109 (.pointer (some p))).run Tryd.prog w = .ok (.agg #[.pointer (some ⟨2, 42, none⟩), .pointer (some p), .int .u64 386]) w := by kernel_rfl
theorem elemK78 (p : Addr) (w : World) : (elemK 121 (.pointer (some p))).run Tryd.prog w = .ok (.agg #[.pointer (some ⟨2, 102, none⟩), .pointer (some p), .int .u64 406]) w := by kernel_rfl
theorem rl_velem73 (a p : Addr) (w : World) (h : w.cell? a = some (.pointer (some p))) : (fnVElem #[.agg #[.pointer (some ⟨2, 109, none⟩), .pointer (some a), .int .u64 150]]).run Tryd.prog w = .ok (.agg #[.pointer (some ⟨2, 42, none⟩), .pointer (some p), .int .u64 386]) w := by
  have e : (fnVElem #[.agg #[.pointer (some ⟨2, 109, none⟩), .pointer (some a), .int .u64 150]]).run Tryd.prog w = (Sem.load Mode.plain a (elemK 109)).run Tryd.prog w := by kernel_rfl
  rw [e, load_k h, elemK73]
theorem rl_velem78 (a p : Addr) (w : World) (h : w.cell? a = some (.pointer (some p))) : (fnVElem #[.agg #[.pointer (some ⟨2, 121, none⟩), .pointer (some a), .int .u64 150]]).run Tryd.prog w = .ok (.agg #[.pointer (some ⟨2, 102, none⟩), .pointer (some p), .int .u64 406]) w := by
  have e : (fnVElem #[.agg #[.pointer (some ⟨2, 121, none⟩), .pointer (some a), .int .u64 150]]).run Tryd.prog w = (Sem.load Mode.plain a (elemK 121)).run Tryd.prog w := by kernel_rfl
  rw [e, load_k h, elemK78]
theorem rl_vset24 (P a : Nat) (n m : Int) (w : World) (h : w.cell? ⟨a, 0, none⟩ = some (.int .i64 n)) (hP : w.cell? ⟨P, 0, none⟩ = some (.int .i64 m)) (hz : w.frozen? ⟨P, 0, none⟩ = false) :
    (ReflectliteValue.set #[.agg #[.pointer (some ⟨2, 42, none⟩), .pointer (some ⟨P, 0, none⟩), .int .u64 386], .agg #[.pointer (some ⟨2, 42, none⟩), .pointer (some ⟨a, 0, none⟩), .int .u64 130]]).run Tryd.prog w = .ok (.tuple #[]) (w.setCell ⟨P, 0, none⟩ (.int .i64 n)) := by
  have e : (ReflectliteValue.set #[.agg #[.pointer (some ⟨2, 42, none⟩), .pointer (some ⟨P, 0, none⟩), .int .u64 386], .agg #[.pointer (some ⟨2, 42, none⟩), .pointer (some ⟨a, 0, none⟩), .int .u64 130]]).run Tryd.prog w = (Sem.load Mode.plain ⟨a, 0, none⟩ (fun v => do storeVar 42 ⟨P, 0, none⟩ v; pure (.tuple #[]))).run Tryd.prog w := by kernel_rfl
  rw [e, load_k h]
  have e2 : (do storeVar 42 ⟨P, 0, none⟩ (.int .i64 n); pure (.tuple #[]) : Sem Value).run Tryd.prog w = (Sem.store Mode.plain ⟨P, 0, none⟩ (.int .i64 n) (.pure (.tuple #[]))).run Tryd.prog w := by kernel_rfl
  rw [e2, store_k hP hz _ rfl]
  rfl
theorem rl_vset37 (P a : Nat) (p q : Option Addr) (w : World) (h : w.cell? ⟨a, 0, none⟩ = some (.pointer p)) (hP : w.cell? ⟨P, 0, none⟩ = some (.pointer q)) (hz : w.frozen? ⟨P, 0, none⟩ = false) :
    (ReflectliteValue.set #[.agg #[.pointer (some ⟨2, 102, none⟩), .pointer (some ⟨P, 0, none⟩), .int .u64 406], .agg #[.pointer (some ⟨2, 102, none⟩), .pointer (some ⟨a, 0, none⟩), .int .u64 150]]).run Tryd.prog w = .ok (.tuple #[]) (w.setCell ⟨P, 0, none⟩ (.pointer p)) := by
  have e : (ReflectliteValue.set #[.agg #[.pointer (some ⟨2, 102, none⟩), .pointer (some ⟨P, 0, none⟩), .int .u64 406], .agg #[.pointer (some ⟨2, 102, none⟩), .pointer (some ⟨a, 0, none⟩), .int .u64 150]]).run Tryd.prog w = (Sem.load Mode.plain ⟨a, 0, none⟩ (fun v => do storeVar 102 ⟨P, 0, none⟩ v; pure (.tuple #[]))).run Tryd.prog w := by kernel_rfl
  rw [e, load_k h]
  have e2 : (do storeVar 102 ⟨P, 0, none⟩ (.pointer p); pure (.tuple #[]) : Sem Value).run Tryd.prog w = (Sem.store Mode.plain ⟨P, 0, none⟩ (.pointer p) (.pure (.tuple #[]))).run Tryd.prog w := by kernel_rfl
  rw [e2, store_k hP hz _ rfl]
  rfl
end Go.Proofs.YtjphlhehhigpjaaDoor
