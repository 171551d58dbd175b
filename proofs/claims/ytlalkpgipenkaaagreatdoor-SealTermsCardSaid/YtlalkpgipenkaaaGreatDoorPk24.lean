/- Part 24 of what the statement wants. -/
import Derived.Shelf.Strings.Builder1
import Derived.Shelf.Strings.Builder2
import Derived.Shelf.Strings.OnBuilder
import Derived.Shelf.Small.Utf8
import Derived.Shelf.Small.Strs
import Derived.Shelf.Strconv.Itoa0
import Derived.Shelf.Strconv.Itoa1
import Derived.Shelf.LaysM
import Derived.Shelf.Strconv.Itoa2
import Derived.Shelf.Strconv.Itoa3
import Derived.Shelf.Strings.Search1
import Derived.Shelf.Strings.Search2
import Derived.Shelf.Strings.Search3
import Derived.Shelf.Strings.Count
import Derived.Shelf.Strings.Shaped
import Derived.Shelf.Strings.Prefix
import Derived.Shelf.Strings.Split
import Derived.Shelf.Strings.SplitShaped
import Derived.Shelf.Strings.Runes
import Derived.Shelf.Strings.AsciiSet
import Derived.Shelf.Unicode.DecodeSlow
import Derived.Test.YtlalkpgipenkaaaGreatDoorProg
import Derived.Laws.Concat
import Derived.Test.YtlalkpgipenkaaaGreatDoorPk03
import Derived.Test.YtlalkpgipenkaaaGreatDoorPk22
namespace Go.Proofs
open Go.Shelf
def Tryz.lays156_ren : Go.Shelf.Ren := ⟨fun | 156 => 71 | 165 => 116 | 166 => 117 | 169 => 118 | 240 => 143 | 241 => 144 | 276 => 187 | 277 => 188 | n => n, fun | 31 => 28 | 9 => 9 | 3 => 3 | 4 => 4 | 0 => 0 | 20 => 20 | 72 => 149 | 76 => 151 | 70 => 147 | 37 => 89 | 75 => 74 | 127 => 186 | 164 => 222 | 5 => 5 | 80 => 153 | n => n, fun | n => n⟩
theorem Tryz.lays156 : Go.Proofs.Lays.n156 Tryz.prog Tryz.lays156_ren := {
  mixed := by kernel_rfl
  f156 := Tryz.func71.trans (congrArg some (by kernel_rfl))
  f165 := Tryz.func116.trans (congrArg some (by kernel_rfl))
  f166 := Tryz.func117.trans (congrArg some (by kernel_rfl))
  f169 := Tryz.func118.trans (congrArg some (by kernel_rfl))
  f240 := Tryz.func143.trans (congrArg some (by kernel_rfl))
  f241 := Tryz.func144.trans (congrArg some (by kernel_rfl))
  f276 := Tryz.func187.trans (congrArg some (by kernel_rfl))
  f277 := Tryz.func188.trans (congrArg some (by kernel_rfl))
  t0 := Tryz.underlying0
  a0 := Tryz.isAgg0
  z0 := Tryz.sizeOf0
  v0 := Tryz.zeroValue0
  t3 := Tryz.underlying3
  a3 := Tryz.isAgg3
  z3 := Tryz.sizeOf3
  v3 := Tryz.zeroValue3
  t4 := Tryz.underlying4
  a4 := Tryz.isAgg4
  z4 := Tryz.sizeOf4
  v4 := Tryz.zeroValue4
  t9 := Tryz.underlying9
  a9 := Tryz.isAgg9
  z9 := Tryz.sizeOf9
  v9 := Tryz.zeroValue9
  t20 := Tryz.underlying20
  a20 := Tryz.isAgg20
  z20 := Tryz.sizeOf20
  v20 := Tryz.zeroValue20
  t31 := Tryz.underlying28
  a31 := Tryz.isAgg28
  z31 := Tryz.sizeOf28
  v31 := Tryz.zeroValue28
  t37 := Tryz.underlying89
  a37 := Tryz.isAgg89
  z37 := Tryz.sizeOf89
  v37 := Tryz.zeroValue89
  t70 := Tryz.underlying147
  a70 := Tryz.isAgg147
  z70 := Tryz.sizeOf147
  v70 := Tryz.zeroValue147
  t72 := Tryz.underlying149
  a72 := Tryz.isAgg149
  z72 := Tryz.sizeOf149
  v72 := Tryz.zeroValue149
  t75 := Tryz.underlying74
  a75 := Tryz.isAgg74
  z75 := Tryz.sizeOf74
  v75 := Tryz.zeroValue74
  t76 := Tryz.underlying151
  a76 := Tryz.isAgg151
  z76 := Tryz.sizeOf151
  v76 := Tryz.zeroValue151
  t127 := Tryz.underlying186
  a127 := Tryz.isAgg186
  z127 := Tryz.sizeOf186
  v127 := Tryz.zeroValue186
  t164 := Tryz.underlying222
  a164 := Tryz.isAgg222
  z164 := Tryz.sizeOf222
  v164 := Tryz.zeroValue222 }
theorem Tryz.Builder_Extra_156 : Builder.Extra Tryz.prog Tryz.lays156_ren := {
  sizeBuilder := by kernel_rfl
  liesBuilder := by kernel_rfl
  t5 := Tryz.underlying5
  a5 := Tryz.isAgg5
  z5 := Tryz.sizeOf5
  v5 := Tryz.zeroValue5
  infoByte := by kernel_rfl
  cellsByte := by kernel_rfl
  sizeByte := by kernel_rfl
  neB5 := by decide }
open Go.RowKit in
theorem Tryz.strings_Join_none (a : Option Addr) (c : Nat) (sep : ByteArray) (w : World) :
    Calls Tryz.prog 71 #[.slice a 0 c, .string sep] w fun e w' => e = .returned (.string ⟨#[]⟩) ∧ w' = w := Any.strings_Join_none Tryz.lays156 Tryz.Builder_Extra_156 a c sep w
open Go.RowKit in
theorem Tryz.strings_Join (bk o c : Nat) (xs : List ByteArray) (sep : ByteArray) (w : World) (hcells : ∀ (j : Nat) x, xs[j]? = some x → w.cell? ⟨bk, o + j, none⟩ = some (.string x)) (hbk : bk < w.heap.size) (hN : xs.length ≤ 140737488355328) (hcap : xs.length ≤ c) (hlen : (Lib.join (xs.map (·.data.toList)) sep.data.toList).length ≤ 140737488355328) :
    Calls Tryz.prog 71 #[.slice (some ⟨bk, o, none⟩) xs.length c, .string sep] w fun e w' => e = .returned (.string ⟨(Lib.join (xs.map (·.data.toList)) sep.data.toList).toArray⟩) ∧ Below w.heap.size w w' := Any.strings_Join Tryz.lays156 Tryz.Builder_Extra_156 bk o c xs sep w hcells hbk hN hcap hlen
def Tryz.lays171_ren : Go.Shelf.Ren := ⟨fun | 171 => 128 | 243 => 157 | 246 => 209 | 283 => 229 | 284 => 230 | 285 => 231 | 286 => 232 | 129 => 183 | 317 => 242 | 318 => 243 | 319 => 244 | 320 => 245 | 337 => 252 | 338 => 253 | n => n, fun | 3 => 3 | 9 => 9 | 2 => 2 | 4 => 4 | 171 => 243 | 0 => 0 | 53 => 219 | 37 => 89 | 5 => 5 | 173 => 245 | 212 => 261 | 51 => 42 | 20 => 20 | 213 => 262 | 46 => 88 | 232 => 269 | 233 => 270 | n => n, fun | 17 => 2 | 18 => 3 | 19 => 4 | n => n⟩
theorem Tryz.lays171 : Go.Proofs.Lays.n171 Tryz.prog Tryz.lays171_ren := {
  mixed := by kernel_rfl
  f129 := Tryz.func183.trans (congrArg some (by kernel_rfl))
  f171 := Tryz.func128.trans (congrArg some (by kernel_rfl))
  f243 := Tryz.func157.trans (congrArg some (by kernel_rfl))
  f246 := Tryz.func209.trans (congrArg some (by kernel_rfl))
  f283 := Tryz.func229.trans (congrArg some (by kernel_rfl))
  f284 := Tryz.func230.trans (congrArg some (by kernel_rfl))
  f285 := Tryz.func231.trans (congrArg some (by kernel_rfl))
  f286 := Tryz.func232.trans (congrArg some (by kernel_rfl))
  f317 := Tryz.func242.trans (congrArg some (by kernel_rfl))
  f318 := Tryz.func243.trans (congrArg some (by kernel_rfl))
  f319 := Tryz.func244.trans (congrArg some (by kernel_rfl))
  f320 := Tryz.func245.trans (congrArg some (by kernel_rfl))
  f337 := Tryz.func252.trans (congrArg some (by kernel_rfl))
  f338 := Tryz.func253.trans (congrArg some (by kernel_rfl))
  t0 := Tryz.underlying0
  a0 := Tryz.isAgg0
  z0 := Tryz.sizeOf0
  v0 := Tryz.zeroValue0
  t2 := Tryz.underlying2
  a2 := Tryz.isAgg2
  z2 := Tryz.sizeOf2
  v2 := Tryz.zeroValue2
  t3 := Tryz.underlying3
  a3 := Tryz.isAgg3
  z3 := Tryz.sizeOf3
  v3 := Tryz.zeroValue3
  t4 := Tryz.underlying4
  a4 := Tryz.isAgg4
  z4 := Tryz.sizeOf4
  v4 := Tryz.zeroValue4
  t5 := Tryz.underlying5
  a5 := Tryz.isAgg5
  z5 := Tryz.sizeOf5
  v5 := Tryz.zeroValue5
  t9 := Tryz.underlying9
  a9 := Tryz.isAgg9
  z9 := Tryz.sizeOf9
  v9 := Tryz.zeroValue9
  t20 := Tryz.underlying20
  a20 := Tryz.isAgg20
  z20 := Tryz.sizeOf20
  v20 := Tryz.zeroValue20
  t37 := Tryz.underlying89
  a37 := Tryz.isAgg89
  z37 := Tryz.sizeOf89
  v37 := Tryz.zeroValue89
  t46 := Tryz.underlying88
  a46 := Tryz.isAgg88
  z46 := Tryz.sizeOf88
  v46 := Tryz.zeroValue88
  t51 := Tryz.underlying42
  a51 := Tryz.isAgg42
  z51 := Tryz.sizeOf42
  v51 := Tryz.zeroValue42
  t53 := Tryz.underlying219
  a53 := Tryz.isAgg219
  z53 := Tryz.sizeOf219
  v53 := Tryz.zeroValue219
  t171 := Tryz.underlying243
  a171 := Tryz.isAgg243
  z171 := Tryz.sizeOf243
  v171 := Tryz.zeroValue243
  t173 := Tryz.underlying245
  a173 := Tryz.isAgg245
  z173 := Tryz.sizeOf245
  v173 := Tryz.zeroValue245
  t212 := Tryz.underlying261
  a212 := Tryz.isAgg261
  z212 := Tryz.sizeOf261
  v212 := Tryz.zeroValue261
  t213 := Tryz.underlying262
  a213 := Tryz.isAgg262
  z213 := Tryz.sizeOf262
  t232 := Tryz.underlying269
  a232 := Tryz.isAgg269
  z232 := Tryz.sizeOf269
  v232 := Tryz.zeroValue269
  t233 := Tryz.underlying270
  a233 := Tryz.isAgg270
  z233 := Tryz.sizeOf270
  v233 := Tryz.zeroValue270
  g17 := by kernel_rfl
  g18 := by kernel_rfl
  g19 := by kernel_rfl }
open Go.RowKit Go.Sort Go.Lib in
theorem Tryz.strconv_Itoa_small (i : Nat) (hi : i < 100) (w : World) :
    Calls Tryz.prog 128 #[.int .i64 i] w fun e w' => e = .returned (.string ⟨(Lib.decDigits i).toArray⟩) ∧ w' = w := Any.strconv_Itoa_small Tryz.lays171 i hi w
def Tryz.lays147_ren : Go.Shelf.Ren := ⟨fun | 147 => 207 | 221 => 227 | 268 => 239 | 138 => 240 | 143 => 241 | 195 => 249 | 197 => 247 | 218 => 250 | 219 => 251 | 260 => 254 | 217 => 256 | 225 => 257 | 224 => 258 | 267 => 259 | 266 => 262 | 314 => 263 | n => n, fun | 9 => 9 | 3 => 3 | 31 => 28 | 4 => 4 | 0 => 0 | 105 => 264 | 21 => 21 | 5 => 5 | 46 => 88 | 119 => 271 | 139 => 274 | 138 => 273 | 146 => 276 | 51 => 42 | n => n, fun | 1 => 1 | 3 => 5 | 4 => 6 | n => n⟩
theorem Tryz.lays147 : Go.Proofs.Lays.n147 Tryz.prog Tryz.lays147_ren := {
  mixed := by kernel_rfl
  f138 := Tryz.func240.trans (congrArg some (by kernel_rfl))
  f143 := Tryz.func241.trans (congrArg some (by kernel_rfl))
  f147 := Tryz.func207.trans (congrArg some (by kernel_rfl))
  f195 := Tryz.func249.trans (congrArg some (by kernel_rfl))
  f197 := Tryz.func247.trans (congrArg some (by kernel_rfl))
  f217 := Tryz.func256.trans (congrArg some (by kernel_rfl))
  f218 := Tryz.func250.trans (congrArg some (by kernel_rfl))
  f219 := Tryz.func251.trans (congrArg some (by kernel_rfl))
  f221 := Tryz.func227.trans (congrArg some (by kernel_rfl))
  f224 := Tryz.func258.trans (congrArg some (by kernel_rfl))
  f225 := Tryz.func257.trans (congrArg some (by kernel_rfl))
  f260 := Tryz.func254.trans (congrArg some (by kernel_rfl))
  f266 := Tryz.func262.trans (congrArg some (by kernel_rfl))
  f267 := Tryz.func259.trans (congrArg some (by kernel_rfl))
  f268 := Tryz.func239.trans (congrArg some (by kernel_rfl))
  f314 := Tryz.func263.trans (congrArg some (by kernel_rfl))
  t0 := Tryz.underlying0
  a0 := Tryz.isAgg0
  z0 := Tryz.sizeOf0
  v0 := Tryz.zeroValue0
  t3 := Tryz.underlying3
  a3 := Tryz.isAgg3
  z3 := Tryz.sizeOf3
  v3 := Tryz.zeroValue3
  t4 := Tryz.underlying4
  a4 := Tryz.isAgg4
  z4 := Tryz.sizeOf4
  v4 := Tryz.zeroValue4
  t5 := Tryz.underlying5
  a5 := Tryz.isAgg5
  z5 := Tryz.sizeOf5
  v5 := Tryz.zeroValue5
  t9 := Tryz.underlying9
  a9 := Tryz.isAgg9
  z9 := Tryz.sizeOf9
  v9 := Tryz.zeroValue9
  t21 := Tryz.underlying21
  a21 := Tryz.isAgg21
  z21 := Tryz.sizeOf21
  v21 := Tryz.zeroValue21
  t31 := Tryz.underlying28
  a31 := Tryz.isAgg28
  z31 := Tryz.sizeOf28
  v31 := Tryz.zeroValue28
  t46 := Tryz.underlying88
  a46 := Tryz.isAgg88
  z46 := Tryz.sizeOf88
  v46 := Tryz.zeroValue88
  t51 := Tryz.underlying42
  a51 := Tryz.isAgg42
  z51 := Tryz.sizeOf42
  v51 := Tryz.zeroValue42
  t105 := Tryz.underlying264
  a105 := Tryz.isAgg264
  z105 := Tryz.sizeOf264
  v105 := Tryz.zeroValue264
  t119 := Tryz.underlying271
  a119 := Tryz.isAgg271
  z119 := Tryz.sizeOf271
  t138 := Tryz.underlying273
  a138 := Tryz.isAgg273
  z138 := Tryz.sizeOf273
  v138 := Tryz.zeroValue273
  t139 := Tryz.underlying274
  a139 := Tryz.isAgg274
  z139 := Tryz.sizeOf274
  v139 := Tryz.zeroValue274
  t146 := Tryz.underlying276
  a146 := Tryz.isAgg276
  z146 := Tryz.sizeOf276
  v146 := Tryz.zeroValue276
  g1 := by kernel_rfl
  g3 := by kernel_rfl
  g4 := by kernel_rfl }
open Go.RowKit Go.Lib in
theorem Tryz.strings_SplitN (s sep : ByteArray) (n : Nat) (m : Int) (w : World) (hs : s.size < 4294967281) (hm : w.cell? ⟨1, 0, none⟩ = some (.int .i64 m)) (h1 : 1 ≤ sep.size) (hn : 1 ≤ n) (hn63 : n ≤ 9223372036854775807) :
    Calls Tryz.prog 207 #[.string s, .string sep, .int .i64 n] w fun e w' =>
      e = .returned (.slice (some ⟨w.heap.size, 0, none⟩) (Lib.splitB sep 0 (min n (s.size + 1) - 1) s).length (min n (s.size + 1))) ∧ w' = w.alloc (.cells (Lib.cellsOf (Lib.splitB sep 0 (min n (s.size + 1) - 1) s) (min n (s.size + 1))) 9) := Any.strings_SplitN Tryz.lays147 (by kernel_rfl) s sep n m w hs hm h1 hn hn63
end Go.Proofs

namespace Go.Proofs.YtlalkpgipenkaaaGreatDoor
open Go.RowKit

theorem cut_snoc (s : List UInt8) {a k : Nat} (hk : k < s.length) (ha : a ≤ k) : (s.take (k + 1)).drop a = (s.take k).drop a ++ [s[k]] := by
  rw [List.take_succ_eq_append_getElem hk, List.drop_append_of_le_length (by simp; omega)]
/-- What the document's loop knows behind k bytes: the parts that are done, and where the next one begins. -/
def Cut (s : List UInt8) (k a : Nat) (D : List (List UInt8)) : Prop :=
  D.length ≤ k ∧ ((k ≤ s.length ∧ a ≤ k ∧ partsL s = D ++ nheadP ((s.take k).drop a) (partsL (s.drop k))) ∨ (k = s.length + 1 ∧ D = partsL s))
theorem Cut.start (s : List UInt8) : Cut s 0 0 [] := ⟨Nat.le_refl _, .inl ⟨Nat.zero_le _, Nat.le_refl _, by simp [headP_nil]⟩⟩
theorem Cut.other {s : List UInt8} {k a : Nat} {D : List (List UInt8)} (h : Cut s k a D) (hk : k < s.length) (hb : s[k].toNat ≠ 44) : Cut s (k + 1) a D := by
  obtain ⟨hd, h | h⟩ := h
  · obtain ⟨_, ha, hp⟩ := h
    refine ⟨by omega, .inl ⟨by omega, by omega, ?_⟩⟩
    rw [cut_snoc s hk ha, hp, List.drop_eq_getElem_cons hk, headP_other _ _ _ hb]
  · omega
theorem Cut.last {s : List UInt8} {a : Nat} {D : List (List UInt8)} (h : Cut s s.length a D) : Cut s (s.length + 1) (s.length + 1) (D ++ [(s.take s.length).drop a]) := by
  obtain ⟨hd, h | h⟩ := h
  · obtain ⟨_, ha, hp⟩ := h
    refine ⟨by simp; omega, .inr ⟨rfl, ?_⟩⟩
    rw [List.drop_length, headP_end] at hp
    rw [hp]
  · omega
theorem Cut.done {s : List UInt8} {a : Nat} {D : List (List UInt8)} (h : Cut s (s.length + 1) a D) : D = partsL s := by
  obtain ⟨_, h | h⟩ := h
  · omega
  · exact h.2
theorem Cut.le {s : List UInt8} {k a : Nat} {D : List (List UInt8)} (h : Cut s k a D) (hk : k ≤ s.length) : a ≤ k := by
  obtain ⟨_, h | h⟩ := h
  · exact h.2.1
  · omega

theorem splitK_le : ∀ (k : Nat) (s : List UInt8), ∀ x ∈ Lib.splitK [44] 0 k s, x.length ≤ s.length
  | 0, s, x, hx => by
    simp only [Lib.splitK, List.mem_singleton] at hx
    rw [hx]
    exact Nat.le_refl _
  | k + 1, s, x, hx => by
    unfold Lib.splitK at hx
    split at hx
    · simp only [List.mem_singleton] at hx
      rw [hx]
      exact Nat.le_refl _
    · rcases List.mem_cons.1 hx with hx | hx
      · rw [hx, List.length_take]
        exact Nat.min_le_right _ _
      · have := splitK_le k _ x hx
        rw [List.length_drop] at this
        omega
theorem bs_back (L : List ByteArray) : (L.map (·.data.toList)).map bs = L := by
  rw [List.map_map]
  exact (List.map_congr_left fun x _ => bs_list x).trans (List.map_id L)
/-- The array that SplitN leaves reads as its pieces. -/
theorem TextsAt.ofCells {w : World} (L : List ByteArray) {N : Nat} : TextsAt (w.alloc (.cells (Lib.cellsOf L N) 9)) (.slice (some ⟨w.heap.size, 0, none⟩) L.length N) L := by
  refine ⟨_, N, rfl, fun _ => ⟨_, 0, rfl, by simp, fun k x hk => ?_⟩⟩
  have hk' := (List.getElem?_eq_some_iff.1 hk).1
  rw [Holds.cell (Holds.new w 9 (Lib.cellsOf L N)) (0 + k), Nat.zero_add]
  unfold Lib.cellsOf
  rw [List.getElem?_toArray, List.getElem?_append_left (by simpa using hk'), List.getElem?_map, hk]
  rfl

/-- The library's first variable lies in its cell. -/
def VarAt (w : World) : Prop := ∃ m : Int, w.cell? ⟨1, 0, none⟩ = some (.int .i64 m)
theorem VarAt.below {w w' : World} {n : Nat} (h : VarAt w) (hb : Below n w w') (hn : 1 < n) : VarAt w' := by
  obtain ⟨m, hm⟩ := h
  exact ⟨m, (hb.cell (p := ⟨1, 0, none⟩) hn).trans hm⟩
theorem VarAt.pos {w : World} (h : VarAt w) : 1 < w.heap.size := by
  obtain ⟨m, hm⟩ := h
  exact World.block_lt_of_cell? w _ hm

set_option maxRecDepth 100000 in
theorem nSplit_new (s : List UInt8) (hs : s.length ≤ 60000) (w : World) (hV : VarAt w) : Calls Tryz.prog 154 #[.string (bs s)] w fun e w' => ∃ u, e = .returned (.tuple #[u, .int .i64 ((splitP s).2 : Int)]) ∧ TextsAt w' u ((splitP s).1.map bs) ∧ (∀ ao cap, u = .slice ao (splitP s).1.length cap → (splitP s).1.length ≤ cap) ∧ Below w.heap.size w w' ∧ (∀ g, u.ownBlock = some g → w.heap.size ≤ g) := by
  have hsz := bs_size s
  by_cases h0 : s = []
  · subst h0
    rw [show bs ([] : List UInt8) = ⟨#[]⟩ from rfl]
    have HE : Hid (splitP [] = ([], 0)) := rfl
    go_enter Tryz.func154, Tryz.ntmps154
    go_wp2
    go_ret2
    exact ⟨.slice none 0 0, by rw [HE.out]; rfl, by rw [HE.out]; exact TextsAt.nil _, by rw [HE.out]; intro _ _ _; exact Nat.zero_le _, Below.refl _ _, fun g hg => by simp [Value.ownBlock] at hg⟩
  · have hne : (bs s).toList.isEmpty = false := by rw [bs_isEmpty]; simpa using h0
    obtain ⟨m, hm⟩ := hV
    have hN := Tryz.strings_SplitN (bs s) (bs [44]) 17 m w (by omega) hm (by rw [bs_size]; simp) (by omega) (by omega)
    rw [show bs [44] = ⟨#[44]⟩ from rfl, hsz] at hN
    have hsd := Lib.splitB_data ⟨#[44]⟩ 0 (min 17 (s.length + 1) - 1) (bs s)
    have hsl := Lib.splitB_length_le ⟨#[44]⟩ 0 (min 17 (s.length + 1) - 1) (bs s)
    obtain ⟨h1, h2⟩ := splitN_check s
    rw [show (⟨#[44]⟩ : ByteArray).data.toList = [44] from rfl, show (bs s).data.toList = s by simp [bs]] at hsd
    rw [← hsd] at h1 h2
    generalize hL : Lib.splitB ⟨#[44]⟩ 0 (min 17 (s.length + 1) - 1) (bs s) = L at *
    have hLN : L.length ≤ min 17 (s.length + 1) := by omega
    have hTx := TextsAt.ofCells (w := w) L (N := min 17 (s.length + 1))
    have hb1 : Below w.heap.size w (w.alloc (.cells (Lib.cellsOf L (min 17 (s.length + 1))) 9)) := (Below.refl _ _).alloc (Nat.le_refl _) _
    have hback := bs_back L
    have hx1 : ∀ x ∈ L.map (·.data.toList), x.length ≤ 1000000 := by
      intro x hx
      rw [hsd] at hx
      have := splitK_le _ s x hx
      omega
    have hC := nCheck_any (v := .slice (some ⟨w.heap.size, 0, none⟩) L.length (min 17 (s.length + 1))) (xs := L.map (·.data.toList)) (by rw [hback]; exact hTx) (by simp [maxLen]; omega) hx1
    rw [h1] at hC
    have HE : Hid (splitP s = if checkP (partsL s) = 0 then (partsL s, 0) else ([], checkP (partsL s))) := by
      show splitP s = _
      unfold splitP
      rw [if_neg h0]
    generalize w.alloc (.cells (Lib.cellsOf L (min 17 (s.length + 1))) 9) = W1 at *
    have HN := Lib.hid hN
    have HC := Lib.hid hC
    have HT := Lib.hid hTx
    have HB := Lib.hid hb1
    have H2 := Lib.hid h2
    clear hN hC hTx hb1 h2 h1 hsd hsl hL hx1
    generalize partsL s = xs at *
    generalize bs s = S at *
    generalize hc : checkP xs = c at *
    generalize min 17 (s.length + 1) = N at *
    by_cases hc0 : c = 0
    · subst hc0
      have hxs : Hid (xs.map bs = L) := by
        show xs.map bs = L
        rw [← H2.out rfl, hback]
      have HE2 : Hid (splitP s = (xs, 0)) := HE.out
      have hll : xs.length = L.length := by rw [← hxs.out]; simp
      have hLL := Lib.hid hll
      clear hll hback
      go_enter Tryz.func154, Tryz.ntmps154
      go_wp2_with (first
        | (go_at_call 207; refine HN.out.mono ?_; rintro e w1 ⟨rfl, rfl⟩)
        | (go_at_call 208; refine HC.out.mono ?_; rintro e w2 ⟨rfl, b2⟩))
      go_ret2
      refine ⟨.slice (some ⟨w.heap.size, 0, none⟩) L.length N, by rw [HE2.out]; rfl, by rw [HE2.out]; show TextsAt _ _ (xs.map bs); rw [hxs.out]; exact HT.out.below b2, ?_, HB.out.trans (b2.mono HB.out.size), fun g hg => by simp [Value.ownBlock] at hg; omega⟩
      rw [HE2.out]
      intro ao cap e
      simp only [Value.slice.injEq] at e
      have := hLL.out
      show xs.length ≤ cap
      omega
    · have hq2 : ((c : Int) != 0) = true := by rw [bne_iff_ne]; omega
      have HE2 : Hid (splitP s = ([], c)) := by
        show splitP s = _
        rw [HE.out, if_neg hc0]
      clear hback
      go_enter Tryz.func154, Tryz.ntmps154
      go_wp2_with (first
        | (go_at_call 207; refine HN.out.mono ?_; rintro e w1 ⟨rfl, rfl⟩)
        | (go_at_call 208; refine HC.out.mono ?_; rintro e w2 ⟨rfl, b2⟩))
      go_ret2
      exact ⟨.slice none 0 0, by rw [HE2.out]; rfl, by rw [HE2.out]; exact TextsAt.nil _, by rw [HE2.out]; intro _ _ _; exact Nat.zero_le _, HB.out.trans (b2.mono HB.out.size), fun g hg => by simp [Value.ownBlock] at hg⟩
end Go.Proofs.YtlalkpgipenkaaaGreatDoor

namespace Go.Proofs.YtlalkpgipenkaaaGreatDoor
open Go.RowKit

set_option maxRecDepth 100000 in
theorem nJoin_any {w : World} {v : Value} {xs : List (List UInt8)} (h : TextsAt w v (xs.map bs)) (hcap : ∀ ao cap, v = .slice ao xs.length cap → xs.length ≤ cap) (hl : xs.length ≤ 1000) (hs : ∀ x ∈ xs, x.length ≤ 1000) :
    Calls Tryz.prog 214 #[v] w fun e w' => e = .returned (.tuple #[.string (if checkP xs = 0 then bs (joinL xs) else ⟨#[]⟩), .int .i64 (checkP xs : Int)]) ∧ Below w.heap.size w w' := by
  have HC := Lib.hid (nCheck_any h (by unfold maxLen; omega) (fun x hx => by have := hs x hx; omega))
  have hmm : (xs.map bs).map (·.data.toList) = xs := by
    rw [List.map_map]
    exact (List.map_congr_left fun x _ => by simp [bs]).trans (List.map_id xs)
  have HJ : Hid (∀ W : World, Below w.heap.size w W → Calls Tryz.prog 71 #[v, .string ⟨#[44]⟩] W fun e w' => e = .returned (.string (bs (joinL xs))) ∧ Below W.heap.size W w') := fun W hb => by
    have hT := h.below hb
    obtain ⟨ao, cap, rfl, hc⟩ := hT
    have hlen := joinL_le 1000 xs hs
    have hm : xs.length * (1000 + 1) ≤ 1000 * 1001 := Nat.mul_le_mul hl (Nat.le_refl _)
    rw [List.length_map] at hcap ⊢
    cases xs with
    | nil =>
      exact (Tryz.strings_Join_none ao cap ⟨#[44]⟩ W).mono fun e w' ⟨he, hw⟩ => ⟨he, hw ▸ Below.refl _ _⟩
    | cons x r =>
      obtain ⟨b, off, rfl, hbl, hcell⟩ := hc (by simp)
      have hcp := hcap (some ⟨b, off, none⟩) cap rfl
      have := Tryz.strings_Join b off cap ((x :: r).map bs) ⟨#[44]⟩ W (fun j y hj => hcell j y hj) hbl (by simp; simp at hl; omega) (by rw [List.length_map]; exact hcp) (by rw [hmm]; exact Nat.le_trans hlen (by omega))
      rw [hmm, List.length_map] at this
      exact this
  clear hcap hs hmm
  obtain ⟨ao, cap, rfl, hc⟩ := h
  rw [List.length_map] at *
  clear hc
  generalize joinL xs = J at *
  generalize bs J = JJ at *
  generalize checkP xs = c at *
  by_cases hc0 : c = 0
  · subst hc0
    go_enter Tryz.func214, Tryz.ntmps214
    go_wp2_with (first
      | (go_at_call 208; refine HC.out.mono ?_; rintro e w1 ⟨rfl, b1⟩)
      | (go_at_call 71; refine (HJ.out _ b1).mono ?_; rintro e w2 ⟨rfl, b2⟩))
    go_ret2
    exact ⟨rfl, b1.trans (b2.mono b1.size)⟩
  · have hq : ((c : Int) != 0) = true := by rw [bne_iff_ne]; omega
    go_enter Tryz.func214, Tryz.ntmps214
    go_wp2_with (first
      | (go_at_call 208; refine HC.out.mono ?_; rintro e w1 ⟨rfl, b1⟩)
      | (go_at_call 71; refine (HJ.out _ b1).mono ?_; rintro e w2 ⟨rfl, b2⟩))
    go_ret2
    exact ⟨rfl, b1⟩
end Go.Proofs.YtlalkpgipenkaaaGreatDoor
