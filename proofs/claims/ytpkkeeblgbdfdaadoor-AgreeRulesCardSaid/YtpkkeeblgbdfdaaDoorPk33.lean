/- Part 33 of what the statement wants. -/
import Derived.Test.YtpkkeeblgbdfdaaDoorChecked
import Derived.LaidEql
import Derived.Stop.Asserts
import Derived.RowKitTokens
import Derived.Test.YtpkkeeblgbdfdaaDoorPk00
import Derived.Test.YtpkkeeblgbdfdaaDoorPk31
import Derived.Test.YtpkkeeblgbdfdaaDoorPk32
namespace Go.Proofs.YtpkkeeblgbdfdaaDoor
open Go.RowKit Go.Extern.Stop Go.Stop Go.Extern

set_option maxRecDepth 100000
theorem rl_typeOf24 (v : Value) (w : World) : (Extern.ReflectliteType.typeOf #[.iface 31 v]).run Tryd.prog w = .ok (.iface 117 (.agg #[.pointer (some ⟨1, 31, none⟩)])) w := by kernel_rfl
theorem rl_typeOf37 (v : Value) (w : World) : (Extern.ReflectliteType.typeOf #[.iface 85 v]).run Tryd.prog w = .ok (.iface 117 (.agg #[.pointer (some ⟨1, 85, none⟩)])) w := by kernel_rfl
theorem rl_valueOf73 (p : Option Addr) (w : World) : (Extern.ReflectliteValue.unpack (.iface 98 (.pointer p))).run Tryd.prog w = .ok (.agg #[.pointer (some ⟨1, 98, none⟩), .pointer (some ⟨w.heap.size, 0, none⟩), .int .u64 150]) (w.alloc (.cells #[.pointer p] 98)) := by kernel_rfl
theorem rl_valueOf78 (p : Option Addr) (w : World) : (Extern.ReflectliteValue.unpack (.iface 100 (.pointer p))).run Tryd.prog w = .ok (.agg #[.pointer (some ⟨1, 100, none⟩), .pointer (some ⟨w.heap.size, 0, none⟩), .int .u64 150]) (w.alloc (.cells #[.pointer p] 100)) := by kernel_rfl
theorem rl_valueOf24 (n : Int) (w : World) : (Extern.ReflectliteValue.unpack (.iface 31 (.int .i64 n))).run Tryd.prog w = .ok (.agg #[.pointer (some ⟨1, 31, none⟩), .pointer (some ⟨w.heap.size, 0, none⟩), .int .u64 130]) (w.alloc (.cells #[.int .i64 n] 31)) := by kernel_rfl
theorem rl_valueOf37 (p : Option Addr) (w : World) : (Extern.ReflectliteValue.unpack (.iface 85 (.pointer p))).run Tryd.prog w = .ok (.agg #[.pointer (some ⟨1, 85, none⟩), .pointer (some ⟨w.heap.size, 0, none⟩), .int .u64 150]) (w.alloc (.cells #[.pointer p] 85)) := by kernel_rfl
def fnVType : Array Value → Sem Value := ReflectliteValue.methodAny (ReflectliteValue.valueError "reflectlite.Value.Type" 0) fun t _ _ _ => ReflectliteType.toType t
def fnIsNil : Array Value → Sem Value := ReflectliteValue.method (ReflectliteValue.valueError "reflectlite.Value.IsNil" 0) ReflectliteValue.isNil
def fnVElem : Array Value → Sem Value := ReflectliteValue.method (ReflectliteValue.valueError "reflectlite.Value.Elem" 0) ReflectliteValue.elem
def fnKind : Array Value → Sem Value := ReflectliteType.abiMethod fun t => do pure (.int .u8 (← Rtype.kind t))
theorem rl_type73 (a : Addr) (w : World) : (fnVType #[.agg #[.pointer (some ⟨1, 98, none⟩), .pointer (some a), .int .u64 150]]).run Tryd.prog w = .ok (.iface 117 (.agg #[.pointer (some ⟨1, 98, none⟩)])) w := by kernel_rfl
theorem rl_type78 (a : Addr) (w : World) : (fnVType #[.agg #[.pointer (some ⟨1, 100, none⟩), .pointer (some a), .int .u64 150]]).run Tryd.prog w = .ok (.iface 117 (.agg #[.pointer (some ⟨1, 100, none⟩)])) w := by kernel_rfl
theorem rl_kind73 (w : World) : (fnKind #[.pointer (some ⟨1, 98, none⟩)]).run Tryd.prog w = .ok (.int .u8 22) w := by kernel_rfl
theorem rl_kind78 (w : World) : (fnKind #[.pointer (some ⟨1, 100, none⟩)]).run Tryd.prog w = .ok (.int .u8 22) w := by kernel_rfl
theorem rl_kind24 (w : World) : (fnKind #[.pointer (some ⟨1, 31, none⟩)]).run Tryd.prog w = .ok (.int .u8 2) w := by kernel_rfl
theorem rl_kind37 (w : World) : (fnKind #[.pointer (some ⟨1, 85, none⟩)]).run Tryd.prog w = .ok (.int .u8 22) w := by kernel_rfl
theorem rl_elem73 (w : World) : (ReflectliteType.method ReflectliteType.elem #[.agg #[.pointer (some ⟨1, 98, none⟩)]]).run Tryd.prog w = .ok (.iface 117 (.agg #[.pointer (some ⟨1, 31, none⟩)])) w := by kernel_rfl
theorem rl_elem78 (w : World) : (ReflectliteType.method ReflectliteType.elem #[.agg #[.pointer (some ⟨1, 100, none⟩)]]).run Tryd.prog w = .ok (.iface 117 (.agg #[.pointer (some ⟨1, 85, none⟩)])) w := by kernel_rfl
theorem rl_impl24 (w : World) : (ReflectliteType.relation "Implements" ReflectliteType.implements_ #[.agg #[.pointer (some ⟨1, 31, none⟩)], .iface 117 (.agg #[.pointer (some ⟨1, 28, none⟩)])]).run Tryd.prog w = .ok (.bool true) w := by kernel_rfl
theorem rl_impl37 (w : World) : (ReflectliteType.relation "Implements" ReflectliteType.implements_ #[.agg #[.pointer (some ⟨1, 85, none⟩)], .iface 117 (.agg #[.pointer (some ⟨1, 28, none⟩)])]).run Tryd.prog w = .ok (.bool true) w := by kernel_rfl
theorem rl_asg_nn (w : World) : (ReflectliteType.relation "AssignableTo" ReflectliteType.assignableTo #[.agg #[.pointer (some ⟨1, 31, none⟩)], .iface 117 (.agg #[.pointer (some ⟨1, 31, none⟩)])]).run Tryd.prog w = .ok (.bool true) w := by kernel_rfl
theorem rl_asg_nf (w : World) : (ReflectliteType.relation "AssignableTo" ReflectliteType.assignableTo #[.agg #[.pointer (some ⟨1, 31, none⟩)], .iface 117 (.agg #[.pointer (some ⟨1, 85, none⟩)])]).run Tryd.prog w = .ok (.bool false) w := by kernel_rfl
theorem rl_asg_fn (w : World) : (ReflectliteType.relation "AssignableTo" ReflectliteType.assignableTo #[.agg #[.pointer (some ⟨1, 85, none⟩)], .iface 117 (.agg #[.pointer (some ⟨1, 31, none⟩)])]).run Tryd.prog w = .ok (.bool false) w := by kernel_rfl
theorem rl_asg_ff (w : World) : (ReflectliteType.relation "AssignableTo" ReflectliteType.assignableTo #[.agg #[.pointer (some ⟨1, 85, none⟩)], .iface 117 (.agg #[.pointer (some ⟨1, 85, none⟩)])]).run Tryd.prog w = .ok (.bool true) w := by kernel_rfl
theorem load_k {α : Type} {w : World} {a : Addr} {v : Value} (h : w.cell? a = some v) (k : Value → Sem α) : (Sem.load Mode.plain a k).run Tryd.prog w = (k v).run Tryd.prog w := by
  simp only [Sem.run, h]
def nilK : Value → Sem Value
  | .chan none | .nilFunc | .nilIface | .map none | .pointer none | .slice none _ _ => .pure (.bool true)
  | _ => .pure (.bool false)
theorem rl_isNil73 (a p : Addr) (w : World) (h : w.cell? a = some (.pointer (some p))) : (fnIsNil #[.agg #[.pointer (some ⟨1, 98, none⟩), .pointer (some a), .int .u64 150]]).run Tryd.prog w = .ok (.bool false) w := by
  have e : (fnIsNil #[.agg #[.pointer (some ⟨1, 98, none⟩), .pointer (some a), .int .u64 150]]).run Tryd.prog w = (Sem.load Mode.plain a nilK).run Tryd.prog w := by kernel_rfl
  rw [e, load_k h]
  rfl
theorem rl_isNil78 (a p : Addr) (w : World) (h : w.cell? a = some (.pointer (some p))) : (fnIsNil #[.agg #[.pointer (some ⟨1, 100, none⟩), .pointer (some a), .int .u64 150]]).run Tryd.prog w = .ok (.bool false) w := by
  have e : (fnIsNil #[.agg #[.pointer (some ⟨1, 100, none⟩), .pointer (some a), .int .u64 150]]).run Tryd.prog w = (Sem.load Mode.plain a nilK).run Tryd.prog w := by kernel_rfl
  rw [e, load_k h]
  rfl
theorem store_k {α : Type} {w : World} {a : Addr} {u : Value} (h : w.cell? a = some u) (hz : w.frozen? a = false) (v : Value) (hv : v.oneCell' = true) (k : Sem α) : (Sem.store Mode.plain a v k).run Tryd.prog w = k.run Tryd.prog (w.setCell a v) := by
  cases v <;> first
    | (simp [Value.oneCell'] at hv; done)
    | (simp only [Sem.run, h, hz]; rfl)
def elemK (t : TypeId) (v : Value) : Sem Value := do
  match (22 : Nat), v, ← Rtype.elem? t with
  | 20, i, _ => ReflectliteValue.unpack i
  | 22, .pointer none, _ => pure ReflectliteValue.zeroV
  | 22, .pointer (some p), some e => ReflectliteValue.mk e p ReflectliteValue.flagAddr
  | _, _, _ => ReflectliteValue.valueError "reflectlite.Value.Elem" 22
theorem elemK73 (p : Addr) (w : World) : (elemK 98 (.pointer (some p))).run Tryd.prog w = .ok (.agg #[.pointer (some ⟨1, 31, none⟩), .pointer (some p), .int .u64 386]) w := by kernel_rfl
theorem elemK78 (p : Addr) (w : World) : (elemK 100 (.pointer (some p))).run Tryd.prog w = .ok (.agg #[.pointer (some ⟨1, 85, none⟩), .pointer (some p), .int .u64 406]) w := by kernel_rfl
theorem rl_velem73 (a p : Addr) (w : World) (h : w.cell? a = some (.pointer (some p))) : (fnVElem #[.agg #[.pointer (some ⟨1, 98, none⟩), .pointer (some a), .int .u64 150]]).run Tryd.prog w = .ok (.agg #[.pointer (some ⟨1, 31, none⟩), .pointer (some p), .int .u64 386]) w := by
  have e : (fnVElem #[.agg #[.pointer (some ⟨1, 98, none⟩), .pointer (some a), .int .u64 150]]).run Tryd.prog w = (Sem.load Mode.plain a (elemK 98)).run Tryd.prog w := by kernel_rfl
  rw [e, load_k h, elemK73]
theorem rl_velem78 (a p : Addr) (w : World) (h : w.cell? a = some (.pointer (some p))) : (fnVElem #[.agg #[.pointer (some ⟨1, 100, none⟩), .pointer (some a), .int .u64 150]]).run Tryd.prog w = .ok (.agg #[.pointer (some ⟨1, 85, none⟩), .pointer (some p), .int .u64 406]) w := by
  have e : (fnVElem #[.agg #[.pointer (some ⟨1, 100, none⟩), .pointer (some a), .int .u64 150]]).run Tryd.prog w = (Sem.load Mode.plain a (elemK 100)).run Tryd.prog w := by kernel_rfl
  rw [e, load_k h, elemK78]
theorem rl_vset24 (P a : Nat) (n m : Int) (w : World) (h : w.cell? ⟨a, 0, none⟩ = some (.int .i64 n)) (hP : w.cell? ⟨P, 0, none⟩ = some (.int .i64 m)) (hz : w.frozen? ⟨P, 0, none⟩ = false) :
    (ReflectliteValue.set #[.agg #[.pointer (some ⟨1, 31, none⟩), .pointer (some ⟨P, 0, none⟩), .int .u64 386], .agg #[.pointer (some ⟨1, 31, none⟩), .pointer (some ⟨a, 0, none⟩), .int .u64 130]]).run Tryd.prog w = .ok (.tuple #[]) (w.setCell ⟨P, 0, none⟩ (.int .i64 n)) := by
  have e : (ReflectliteValue.set #[.agg #[.pointer (some ⟨1, 31, none⟩), .pointer (some ⟨P, 0, none⟩), .int .u64 386], .agg #[.pointer (some ⟨1, 31, none⟩), .pointer (some ⟨a, 0, none⟩), .int .u64 130]]).run Tryd.prog w = (Sem.load Mode.plain ⟨a, 0, none⟩ (fun v => do storeVar 31 ⟨P, 0, none⟩ v; pure (.tuple #[]))).run Tryd.prog w := by kernel_rfl
  rw [e, load_k h]
  have e2 : (do storeVar 31 ⟨P, 0, none⟩ (.int .i64 n); pure (.tuple #[]) : Sem Value).run Tryd.prog w = (Sem.store Mode.plain ⟨P, 0, none⟩ (.int .i64 n) (.pure (.tuple #[]))).run Tryd.prog w := by kernel_rfl
  rw [e2, store_k hP hz _ rfl]
  rfl
theorem rl_vset37 (P a : Nat) (p q : Option Addr) (w : World) (h : w.cell? ⟨a, 0, none⟩ = some (.pointer p)) (hP : w.cell? ⟨P, 0, none⟩ = some (.pointer q)) (hz : w.frozen? ⟨P, 0, none⟩ = false) :
    (ReflectliteValue.set #[.agg #[.pointer (some ⟨1, 85, none⟩), .pointer (some ⟨P, 0, none⟩), .int .u64 406], .agg #[.pointer (some ⟨1, 85, none⟩), .pointer (some ⟨a, 0, none⟩), .int .u64 150]]).run Tryd.prog w = .ok (.tuple #[]) (w.setCell ⟨P, 0, none⟩ (.pointer p)) := by
  have e : (ReflectliteValue.set #[.agg #[.pointer (some ⟨1, 85, none⟩), .pointer (some ⟨P, 0, none⟩), .int .u64 406], .agg #[.pointer (some ⟨1, 85, none⟩), .pointer (some ⟨a, 0, none⟩), .int .u64 150]]).run Tryd.prog w = (Sem.load Mode.plain ⟨a, 0, none⟩ (fun v => do storeVar 85 ⟨P, 0, none⟩ v; pure (.tuple #[]))).run Tryd.prog w := by kernel_rfl
  rw [e, load_k h]
  have e2 : (do storeVar 85 ⟨P, 0, none⟩ (.pointer p); pure (.tuple #[]) : Sem Value).run Tryd.prog w = (Sem.store Mode.plain ⟨P, 0, none⟩ (.pointer p) (.pure (.tuple #[]))).run Tryd.prog w := by kernel_rfl
  rw [e2, store_k hP hz _ rfl]
  rfl
end Go.Proofs.YtpkkeeblgbdfdaaDoor

namespace Go.Proofs.YtpkkeeblgbdfdaaDoor
open Go.RowKit Go.Extern.Stop Go.Stop Go.Extern

/-- The places in a row, a space behind each. -/
def atP (path : List ByteArray) : ByteArray := path.foldl (fun s x => s ++ x ++ ⟨#[32]⟩) ⟨#[]⟩

theorem atP_size {path : List ByteArray} (k : Nat) (hs : ∀ x ∈ path.take k, x.size ≤ 1000) (hk : k ≤ path.length) : (atP (path.take k)).size ≤ 1001 * k := by
  induction k with
  | zero => exact Nat.zero_le _
  | succ k ih =>
    have hk' : k < path.length := hk
    rw [List.take_succ_eq_append_getElem hk'] at hs ⊢
    have h1 := ih (fun x hx => hs x (List.mem_append.2 (.inl hx))) (by omega)
    have h2 := hs path[k] (List.mem_append.2 (.inr (List.mem_singleton.2 rfl)))
    unfold atP at *
    rw [List.foldl_append]
    simp only [List.foldl_cons, List.foldl_nil, ByteArray.size_append]
    have h32 : (⟨#[32]⟩ : ByteArray).size = 1 := rfl
    omega
end Go.Proofs.YtpkkeeblgbdfdaaDoor
