/- What the reader does, as a relation: Reads (depth) L rest bad (id, L', rest', bad'). Nothing of the program is run here. -/
import Derived.Test.YtemefbpoemnnpaaReadData
import Derived.Test.YtemefbpoemnnpaaExp
namespace Go.Proofs.Ytemefbpoemnnpaa
open Go.RowKit

/-- What a step of the reader leaves: a term's number, the terms, the bytes, whether it is bad. -/
abbrev RT := Int × List Ent × List UInt8 × Bool

/-- n terms, one behind the other. -/
def ReadsMany (rd : List Ent → List UInt8 → Bool → RT → Prop) (L : List Ent) (r : List UInt8) (b : Bool) : Nat → List Int → List Ent × List UInt8 × Bool → Prop
  | 0, l, p => l = [] ∧ p = (L, r, b)
  | n + 1, l, p => ∃ l0 L0 r0 b0 id, ReadsMany rd L r b n l0 (L0, r0, b0) ∧ rd L0 r0 b0 (id, p) ∧ l = l0 ++ [id]
def ReadsTerms (rd : List Ent → List UInt8 → Bool → RT → Prop) (limit : Nat) (L : List Ent) (r : List UInt8) (b : Bool) (l : List Int) (p : List Ent × List UInt8 × Bool) : Prop :=
  if limit < (u32P r b).1 then l = [] ∧ p = (L, [], true) else ReadsMany rd L (u32P r b).2.1 (u32P r b).2.2 (u32P r b).1 l p
/-- The share s raised by the first k of l. -/
def ExpsTo (L : List Ent) (s : Int) (l : List Int) : Nat → Int × List Ent → Prop
  | 0, m => m = (s, L)
  | k + 1, m => ∃ m0, ExpsTo L s l k m0 ∧ ExpTo m0.2 m0.1 (l.getD k (-1)) m
def argsAt (L : List Ent) (t : Int) : List Int := ((at_ L t).map fun e => e.sh.args.map Int.ofNat).getD []
def ReadsShare (rd : List Ent → List UInt8 → Bool → RT → Prop) (L : List Ent) (r : List UInt8) (b : Bool) (q : RT) : Prop :=
  ∃ l L1 r1 b1 m, ReadsTerms rd 8 (baseM L (bs (cntP r b).1)).2 (cntP r b).2.1 (cntP r b).2.2 l (L1, r1, b1) ∧ ExpsTo L1 (baseM L (bs (cntP r b).1)).1 l l.length m ∧
    q = if argsAt m.2 m.1 = l then (m.1, m.2, r1, b1) else (-1, m.2, [], true)
/-- What stands behind the first byte, whose value is o. -/
def ReadsKind (rd : List Ent → List UInt8 → Bool → RT → Prop) (o : Nat) (L : List Ent) (r : List UInt8) (b : Bool) (q : RT) : Prop :=
  if o = 241 then q = ((dataM L (bs (cntP r b).1)).1, (dataM L (bs (cntP r b).1)).2, (cntP r b).2)
  else if o = 242 then ∃ u, u = u32P (u32P r b).2.1 (u32P r b).2.2 ∧ q = ((nonceM L (u32P r b).1 u.1).1, (nonceM L (u32P r b).1 u.1).2, u.2)
  else if o = 243 then q = ((keyM L (u32P r b).1).1, (keyM L (u32P r b).1).2, (u32P r b).2)
  else if o = 244 then ∃ k L1 p, rd L r b (k, L1, p) ∧ q = ((pubM L1 k).1, (pubM L1 k).2, p)
  else if o = 245 then ReadsShare rd L r b q
  else if o = 246 then ∃ k L1 r1 b1 t L2 p, rd L (cntP r b).2.1 (cntP r b).2.2 (k, L1, r1, b1) ∧ rd L1 r1 b1 (t, L2, p) ∧ q = ((signM L2 (bs (cntP r b).1) k t).1, (signM L2 (bs (cntP r b).1) k t).2, p)
  else if o = 247 then ∃ t L1 p, rd L r b (t, L1, p) ∧ q = ((hashM L1 t).1, (hashM L1 t).2, p)
  else if o = 248 then ∃ x L1 r1 b1 y L2 r2 b2 z L3 p, rd L (octetP r b).2.1 (octetP r b).2.2 (x, L1, r1, b1) ∧ rd L1 r1 b1 (y, L2, r2, b2) ∧ rd L2 r2 b2 (z, L3, p) ∧
    q = ((deriveM L3 (octetP r b).1 x y z).1, (deriveM L3 (octetP r b).1 x y z).2, p)
  else if o = 249 then ∃ k L1 r1 b1 t L2 p, rd L (u32P r b).2.1 (u32P r b).2.2 (k, L1, r1, b1) ∧ rd L1 r1 b1 (t, L2, p) ∧ q = ((sealM L2 k (u32P r b).1 t).1, (sealM L2 k (u32P r b).1 t).2, p)
  else if o = 250 then ∃ l L1 p, ReadsTerms rd 32 L r b l (L1, p) ∧ q = ((listM L1 l).1, (listM L1 l).2, p)
  else q = (-1, L, [], true)
def Reads : Nat → List Ent → List UInt8 → Bool → RT → Prop
  | 0, _, _, _, _ => False
  | f + 1, L, r, b, q => ReadsKind (Reads f) (octetP r b).1 L (octetP r b).2.1 (octetP r b).2.2 q
end Go.Proofs.Ytemefbpoemnnpaa
