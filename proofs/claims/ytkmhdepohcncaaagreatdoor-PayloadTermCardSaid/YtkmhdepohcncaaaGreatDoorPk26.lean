/- Part 26 of what the statement wants. -/
import Derived.Shelf.Strings.Builder1
import Derived.Shelf.Strings.Builder2
import Derived.Shelf.Strings.OnBuilder
import Derived.Shelf.Small.Utf8
import Derived.Shelf.Small.Strs
import Derived.Shelf.Strconv.Itoa0
import Derived.Shelf.Strconv.Itoa1
import Derived.Shelf.LaysM
import Derived.Shelf.Strconv.Itoa2
import Derived.Shelf.Strconv.Itoa3
import Derived.Shelf.Strings.Search1
import Derived.Shelf.Strings.Search2
import Derived.Shelf.Strings.Search3
import Derived.Shelf.Strings.Count
import Derived.Shelf.Strings.Shaped
import Derived.Shelf.Strings.Split
import Derived.Shelf.Strings.SplitShaped
import Derived.Shelf.Strings.Runes
import Derived.Shelf.Strings.AsciiSet
import Derived.Shelf.Unicode.DecodeSlow
import Derived.Test.YtkmhdepohcncaaaGreatDoorProg
import Derived.Test.YtkmhdepohcncaaaGreatDoorPk03
import Derived.Test.YtkmhdepohcncaaaGreatDoorPk24
namespace Go.Proofs
open Go.Shelf
def Tryz.lays156_ren : Go.Shelf.Ren := ⟨fun | 156 => 60 | 165 => 121 | 166 => 122 | 169 => 123 | 240 => 159 | 241 => 160 | 276 => 203 | 277 => 204 | n => n, fun | 31 => 35 | 9 => 9 | 3 => 3 | 4 => 4 | 0 => 0 | 20 => 20 | 72 => 161 | 76 => 163 | 70 => 159 | 37 => 74 | 75 => 61 | 127 => 202 | 164 => 221 | 5 => 5 | 80 => 165 | n => n, fun | n => n⟩
theorem Tryz.lays156 : Go.Proofs.Lays.n156 Tryz.prog Tryz.lays156_ren := {
  mixed := by kernel_rfl
  f156 := Tryz.func60.trans (congrArg some (by kernel_rfl))
  f165 := Tryz.func121.trans (congrArg some (by kernel_rfl))
  f166 := Tryz.func122.trans (congrArg some (by kernel_rfl))
  f169 := Tryz.func123.trans (congrArg some (by kernel_rfl))
  f240 := Tryz.func159.trans (congrArg some (by kernel_rfl))
  f241 := Tryz.func160.trans (congrArg some (by kernel_rfl))
  f276 := Tryz.func203.trans (congrArg some (by kernel_rfl))
  f277 := Tryz.func204.trans (congrArg some (by kernel_rfl))
  t0 := Tryz.underlying0
  a0 := Tryz.isAgg0
  z0 := Tryz.sizeOf0
  v0 := Tryz.zeroValue0
  t3 := Tryz.underlying3
  a3 := Tryz.isAgg3
  z3 := Tryz.sizeOf3
  v3 := Tryz.zeroValue3
  t4 := Tryz.underlying4
  a4 := Tryz.isAgg4
  z4 := Tryz.sizeOf4
  v4 := Tryz.zeroValue4
  t9 := Tryz.underlying9
  a9 := Tryz.isAgg9
  z9 := Tryz.sizeOf9
  v9 := Tryz.zeroValue9
  t20 := Tryz.underlying20
  a20 := Tryz.isAgg20
  z20 := Tryz.sizeOf20
  v20 := Tryz.zeroValue20
  t31 := Tryz.underlying35
  a31 := Tryz.isAgg35
  z31 := Tryz.sizeOf35
  v31 := Tryz.zeroValue35
  t37 := Tryz.underlying74
  a37 := Tryz.isAgg74
  z37 := Tryz.sizeOf74
  v37 := Tryz.zeroValue74
  t70 := Tryz.underlying159
  a70 := Tryz.isAgg159
  z70 := Tryz.sizeOf159
  v70 := Tryz.zeroValue159
  t72 := Tryz.underlying161
  a72 := Tryz.isAgg161
  z72 := Tryz.sizeOf161
  v72 := Tryz.zeroValue161
  t75 := Tryz.underlying61
  a75 := Tryz.isAgg61
  z75 := Tryz.sizeOf61
  v75 := Tryz.zeroValue61
  t76 := Tryz.underlying163
  a76 := Tryz.isAgg163
  z76 := Tryz.sizeOf163
  v76 := Tryz.zeroValue163
  t127 := Tryz.underlying202
  a127 := Tryz.isAgg202
  z127 := Tryz.sizeOf202
  v127 := Tryz.zeroValue202
  t164 := Tryz.underlying221
  a164 := Tryz.isAgg221
  z164 := Tryz.sizeOf221
  v164 := Tryz.zeroValue221 }
theorem Tryz.Builder_Extra_156 : Builder.Extra Tryz.prog Tryz.lays156_ren := {
  sizeBuilder := by kernel_rfl
  liesBuilder := by kernel_rfl
  t5 := Tryz.underlying5
  a5 := Tryz.isAgg5
  z5 := Tryz.sizeOf5
  v5 := Tryz.zeroValue5
  infoByte := by kernel_rfl
  cellsByte := by kernel_rfl
  sizeByte := by kernel_rfl
  neB5 := by decide }
open Go.RowKit in
theorem Tryz.strings_Join_none (a : Option Addr) (c : Nat) (sep : ByteArray) (w : World) :
    Calls Tryz.prog 60 #[.slice a 0 c, .string sep] w fun e w' => e = .returned (.string ⟨#[]⟩) ∧ w' = w := Any.strings_Join_none Tryz.lays156 Tryz.Builder_Extra_156 a c sep w
open Go.RowKit in
theorem Tryz.strings_Join (bk o c : Nat) (xs : List ByteArray) (sep : ByteArray) (w : World) (hcells : ∀ (j : Nat) x, xs[j]? = some x → w.cell? ⟨bk, o + j, none⟩ = some (.string x)) (hbk : bk < w.heap.size) (hN : xs.length ≤ 140737488355328) (hcap : xs.length ≤ c) (hlen : (Lib.join (xs.map (·.data.toList)) sep.data.toList).length ≤ 140737488355328) :
    Calls Tryz.prog 60 #[.slice (some ⟨bk, o, none⟩) xs.length c, .string sep] w fun e w' => e = .returned (.string ⟨(Lib.join (xs.map (·.data.toList)) sep.data.toList).toArray⟩) ∧ Below w.heap.size w w' := Any.strings_Join Tryz.lays156 Tryz.Builder_Extra_156 bk o c xs sep w hcells hbk hN hcap hlen
def Tryz.lays171_ren : Go.Shelf.Ren := ⟨fun | 171 => 116 | 243 => 150 | 246 => 195 | 283 => 225 | 284 => 226 | 285 => 227 | 286 => 228 | 129 => 218 | 317 => 242 | 318 => 243 | 319 => 244 | 320 => 245 | 337 => 253 | 338 => 254 | n => n, fun | 3 => 3 | 9 => 9 | 2 => 2 | 4 => 4 | 171 => 237 | 0 => 0 | 53 => 218 | 37 => 74 | 5 => 5 | 173 => 239 | 212 => 258 | 51 => 45 | 20 => 20 | 213 => 259 | 46 => 97 | 232 => 269 | 233 => 270 | n => n, fun | 17 => 2 | 18 => 3 | 19 => 4 | n => n⟩
theorem Tryz.lays171 : Go.Proofs.Lays.n171 Tryz.prog Tryz.lays171_ren := {
  mixed := by kernel_rfl
  f129 := Tryz.func218.trans (congrArg some (by kernel_rfl))
  f171 := Tryz.func116.trans (congrArg some (by kernel_rfl))
  f243 := Tryz.func150.trans (congrArg some (by kernel_rfl))
  f246 := Tryz.func195.trans (congrArg some (by kernel_rfl))
  f283 := Tryz.func225.trans (congrArg some (by kernel_rfl))
  f284 := Tryz.func226.trans (congrArg some (by kernel_rfl))
  f285 := Tryz.func227.trans (congrArg some (by kernel_rfl))
  f286 := Tryz.func228.trans (congrArg some (by kernel_rfl))
  f317 := Tryz.func242.trans (congrArg some (by kernel_rfl))
  f318 := Tryz.func243.trans (congrArg some (by kernel_rfl))
  f319 := Tryz.func244.trans (congrArg some (by kernel_rfl))
  f320 := Tryz.func245.trans (congrArg some (by kernel_rfl))
  f337 := Tryz.func253.trans (congrArg some (by kernel_rfl))
  f338 := Tryz.func254.trans (congrArg some (by kernel_rfl))
  t0 := Tryz.underlying0
  a0 := Tryz.isAgg0
  z0 := Tryz.sizeOf0
  v0 := Tryz.zeroValue0
  t2 := Tryz.underlying2
  a2 := Tryz.isAgg2
  z2 := Tryz.sizeOf2
  v2 := Tryz.zeroValue2
  t3 := Tryz.underlying3
  a3 := Tryz.isAgg3
  z3 := Tryz.sizeOf3
  v3 := Tryz.zeroValue3
  t4 := Tryz.underlying4
  a4 := Tryz.isAgg4
  z4 := Tryz.sizeOf4
  v4 := Tryz.zeroValue4
  t5 := Tryz.underlying5
  a5 := Tryz.isAgg5
  z5 := Tryz.sizeOf5
  v5 := Tryz.zeroValue5
  t9 := Tryz.underlying9
  a9 := Tryz.isAgg9
  z9 := Tryz.sizeOf9
  v9 := Tryz.zeroValue9
  t20 := Tryz.underlying20
  a20 := Tryz.isAgg20
  z20 := Tryz.sizeOf20
  v20 := Tryz.zeroValue20
  t37 := Tryz.underlying74
  a37 := Tryz.isAgg74
  z37 := Tryz.sizeOf74
  v37 := Tryz.zeroValue74
  t46 := Tryz.underlying97
  a46 := Tryz.isAgg97
  z46 := Tryz.sizeOf97
  v46 := Tryz.zeroValue97
  t51 := Tryz.underlying45
  a51 := Tryz.isAgg45
  z51 := Tryz.sizeOf45
  v51 := Tryz.zeroValue45
  t53 := Tryz.underlying218
  a53 := Tryz.isAgg218
  z53 := Tryz.sizeOf218
  v53 := Tryz.zeroValue218
  t171 := Tryz.underlying237
  a171 := Tryz.isAgg237
  z171 := Tryz.sizeOf237
  v171 := Tryz.zeroValue237
  t173 := Tryz.underlying239
  a173 := Tryz.isAgg239
  z173 := Tryz.sizeOf239
  v173 := Tryz.zeroValue239
  t212 := Tryz.underlying258
  a212 := Tryz.isAgg258
  z212 := Tryz.sizeOf258
  v212 := Tryz.zeroValue258
  t213 := Tryz.underlying259
  a213 := Tryz.isAgg259
  z213 := Tryz.sizeOf259
  t232 := Tryz.underlying269
  a232 := Tryz.isAgg269
  z232 := Tryz.sizeOf269
  v232 := Tryz.zeroValue269
  t233 := Tryz.underlying270
  a233 := Tryz.isAgg270
  z233 := Tryz.sizeOf270
  v233 := Tryz.zeroValue270
  g17 := by kernel_rfl
  g18 := by kernel_rfl
  g19 := by kernel_rfl }
open Go.RowKit Go.Sort Go.Lib in
theorem Tryz.strconv_Itoa_small (i : Nat) (hi : i < 100) (w : World) :
    Calls Tryz.prog 116 #[.int .i64 i] w fun e w' => e = .returned (.string ⟨(Lib.decDigits i).toArray⟩) ∧ w' = w := Any.strconv_Itoa_small Tryz.lays171 i hi w
def Tryz.lays147_ren : Go.Shelf.Ren := ⟨fun | 147 => 193 | 221 => 223 | 268 => 239 | 138 => 240 | 143 => 241 | 195 => 250 | 197 => 248 | 218 => 251 | 219 => 252 | 260 => 255 | 217 => 257 | 225 => 258 | 224 => 259 | 267 => 260 | 266 => 263 | 314 => 264 | n => n, fun | 9 => 9 | 3 => 3 | 31 => 35 | 4 => 4 | 0 => 0 | 105 => 264 | 21 => 21 | 5 => 5 | 46 => 97 | 119 => 271 | 139 => 274 | 138 => 273 | 146 => 276 | 51 => 45 | n => n, fun | 1 => 1 | 3 => 5 | 4 => 6 | n => n⟩
theorem Tryz.lays147 : Go.Proofs.Lays.n147 Tryz.prog Tryz.lays147_ren := {
  mixed := by kernel_rfl
  f138 := Tryz.func240.trans (congrArg some (by kernel_rfl))
  f143 := Tryz.func241.trans (congrArg some (by kernel_rfl))
  f147 := Tryz.func193.trans (congrArg some (by kernel_rfl))
  f195 := Tryz.func250.trans (congrArg some (by kernel_rfl))
  f197 := Tryz.func248.trans (congrArg some (by kernel_rfl))
  f217 := Tryz.func257.trans (congrArg some (by kernel_rfl))
  f218 := Tryz.func251.trans (congrArg some (by kernel_rfl))
  f219 := Tryz.func252.trans (congrArg some (by kernel_rfl))
  f221 := Tryz.func223.trans (congrArg some (by kernel_rfl))
  f224 := Tryz.func259.trans (congrArg some (by kernel_rfl))
  f225 := Tryz.func258.trans (congrArg some (by kernel_rfl))
  f260 := Tryz.func255.trans (congrArg some (by kernel_rfl))
  f266 := Tryz.func263.trans (congrArg some (by kernel_rfl))
  f267 := Tryz.func260.trans (congrArg some (by kernel_rfl))
  f268 := Tryz.func239.trans (congrArg some (by kernel_rfl))
  f314 := Tryz.func264.trans (congrArg some (by kernel_rfl))
  t0 := Tryz.underlying0
  a0 := Tryz.isAgg0
  z0 := Tryz.sizeOf0
  v0 := Tryz.zeroValue0
  t3 := Tryz.underlying3
  a3 := Tryz.isAgg3
  z3 := Tryz.sizeOf3
  v3 := Tryz.zeroValue3
  t4 := Tryz.underlying4
  a4 := Tryz.isAgg4
  z4 := Tryz.sizeOf4
  v4 := Tryz.zeroValue4
  t5 := Tryz.underlying5
  a5 := Tryz.isAgg5
  z5 := Tryz.sizeOf5
  v5 := Tryz.zeroValue5
  t9 := Tryz.underlying9
  a9 := Tryz.isAgg9
  z9 := Tryz.sizeOf9
  v9 := Tryz.zeroValue9
  t21 := Tryz.underlying21
  a21 := Tryz.isAgg21
  z21 := Tryz.sizeOf21
  v21 := Tryz.zeroValue21
  t31 := Tryz.underlying35
  a31 := Tryz.isAgg35
  z31 := Tryz.sizeOf35
  v31 := Tryz.zeroValue35
  t46 := Tryz.underlying97
  a46 := Tryz.isAgg97
  z46 := Tryz.sizeOf97
  v46 := Tryz.zeroValue97
  t51 := Tryz.underlying45
  a51 := Tryz.isAgg45
  z51 := Tryz.sizeOf45
  v51 := Tryz.zeroValue45
  t105 := Tryz.underlying264
  a105 := Tryz.isAgg264
  z105 := Tryz.sizeOf264
  v105 := Tryz.zeroValue264
  t119 := Tryz.underlying271
  a119 := Tryz.isAgg271
  z119 := Tryz.sizeOf271
  t138 := Tryz.underlying273
  a138 := Tryz.isAgg273
  z138 := Tryz.sizeOf273
  v138 := Tryz.zeroValue273
  t139 := Tryz.underlying274
  a139 := Tryz.isAgg274
  z139 := Tryz.sizeOf274
  v139 := Tryz.zeroValue274
  t146 := Tryz.underlying276
  a146 := Tryz.isAgg276
  z146 := Tryz.sizeOf276
  v146 := Tryz.zeroValue276
  g1 := by kernel_rfl
  g3 := by kernel_rfl
  g4 := by kernel_rfl }
open Go.RowKit Go.Lib in
theorem Tryz.strings_SplitN (s sep : ByteArray) (n : Nat) (m : Int) (w : World) (hs : s.size < 4294967281) (hm : w.cell? ⟨1, 0, none⟩ = some (.int .i64 m)) (h1 : 1 ≤ sep.size) (hn : 1 ≤ n) (hn63 : n ≤ 9223372036854775807) :
    Calls Tryz.prog 193 #[.string s, .string sep, .int .i64 n] w fun e w' =>
      e = .returned (.slice (some ⟨w.heap.size, 0, none⟩) (Lib.splitB sep 0 (min n (s.size + 1) - 1) s).length (min n (s.size + 1))) ∧ w' = w.alloc (.cells (Lib.cellsOf (Lib.splitB sep 0 (min n (s.size + 1) - 1) s) (min n (s.size + 1))) 9) := Any.strings_SplitN Tryz.lays147 (by kernel_rfl) s sep n m w hs hm h1 hn hn63
end Go.Proofs

namespace Go.Proofs.YtkmhdepohcncaaaGreatDoor
open Go.RowKit

theorem bs_cut (l : List UInt8) (a b : Nat) : (bs l).extract a b = bs ((l.take b).drop a) := by
  apply ByteArray.ext
  apply Array.ext'
  rw [ByteArray.data_extract, Array.toList_extract]
  simp only [bs, List.extract]
  rw [List.drop_take]
theorem cut_snoc (s : List UInt8) {a k : Nat} (hk : k < s.length) (ha : a ≤ k) : (s.take (k + 1)).drop a = (s.take k).drop a ++ [s[k]] := by
  rw [List.take_succ_eq_append_getElem hk, List.drop_append_of_le_length (by simp; omega)]
theorem cut_none (s : List UInt8) (k : Nat) : (s.take k).drop k = [] := List.drop_of_length_le (by simp; omega)

/-- What the document's loop knows behind k bytes: the parts that are done, and where the next one begins. -/
def Cut (s : List UInt8) (k a : Nat) (D : List (List UInt8)) : Prop :=
  D.length ≤ k ∧ ((k ≤ s.length ∧ a ≤ k ∧ partsL s = D ++ nheadP ((s.take k).drop a) (partsL (s.drop k))) ∨ (k = s.length + 1 ∧ D = partsL s))
theorem Cut.start (s : List UInt8) : Cut s 0 0 [] := ⟨Nat.le_refl _, .inl ⟨Nat.zero_le _, Nat.le_refl _, by simp [headP_nil]⟩⟩
theorem Cut.comma {s : List UInt8} {k a : Nat} {D : List (List UInt8)} (h : Cut s k a D) (hk : k < s.length) (hb : s[k].toNat = 44) : Cut s (k + 1) (k + 1) (D ++ [(s.take k).drop a]) := by
  obtain ⟨hd, h | h⟩ := h
  · obtain ⟨_, ha, hp⟩ := h
    refine ⟨by simp; omega, .inl ⟨by omega, Nat.le_refl _, ?_⟩⟩
    rw [cut_none, headP_nil, hp, List.drop_eq_getElem_cons hk, headP_comma _ _ _ hb]
    simp
  · omega
theorem Cut.other {s : List UInt8} {k a : Nat} {D : List (List UInt8)} (h : Cut s k a D) (hk : k < s.length) (hb : s[k].toNat ≠ 44) : Cut s (k + 1) a D := by
  obtain ⟨hd, h | h⟩ := h
  · obtain ⟨_, ha, hp⟩ := h
    refine ⟨by omega, .inl ⟨by omega, by omega, ?_⟩⟩
    rw [cut_snoc s hk ha, hp, List.drop_eq_getElem_cons hk, headP_other _ _ _ hb]
  · omega
theorem Cut.last {s : List UInt8} {a : Nat} {D : List (List UInt8)} (h : Cut s s.length a D) : Cut s (s.length + 1) (s.length + 1) (D ++ [(s.take s.length).drop a]) := by
  obtain ⟨hd, h | h⟩ := h
  · obtain ⟨_, ha, hp⟩ := h
    refine ⟨by simp; omega, .inr ⟨rfl, ?_⟩⟩
    rw [List.drop_length, headP_end] at hp
    rw [hp]
  · omega
theorem Cut.done {s : List UInt8} {a : Nat} {D : List (List UInt8)} (h : Cut s (s.length + 1) a D) : D = partsL s := by
  obtain ⟨_, h | h⟩ := h
  · omega
  · exact h.2
theorem Cut.le {s : List UInt8} {k a : Nat} {D : List (List UInt8)} (h : Cut s k a D) (hk : k ≤ s.length) : a ≤ k := by
  obtain ⟨_, h | h⟩ := h
  · exact h.2.1
  · omega

set_option maxRecDepth 100000 in
theorem rParts_new (s : List UInt8) (hs : s.length ≤ 60000) (w : World) : Calls Tryz.prog 207 #[.string (bs s)] w fun e w' => ∃ u, e = .returned u ∧ TextsAt w' u ((partsL s).map bs) ∧ Below w.heap.size w w' ∧ (∀ g, u.ownBlock = some g → w.heap.size ≤ g) ∧ (∀ ao cap, u = .slice ao (partsL s).length cap → (partsL s).length ≤ cap) := by
  have hsz := bs_size s
  have HI := Lib.hid (fun (k : Nat) (hk : k < s.length) W => index_bs s k hk W)
  have HX := Lib.hid (fun (a b : Nat) => bs_cut s a b)
  have hle : (bs s).size ≤ 60000 := by omega
  obtain ⟨i0, hi, hz0, hz1, hz2⟩ := info_parts infoStr
  generalize bs s = S at *
  go_enter Tryz.func207, Tryz.ntmps207
  go_wp2_with fail
  go_loopw [3, 4, 5] (fun u f i wr => ∃ (k a : Nat) (D : List (List UInt8)), i = .int .i64 k ∧ f = .int .i64 a ∧ k ≤ s.length + 1 ∧ Cut s k a D ∧ wr.ownsRow w.heap.size 9 1 u (D.map bs).length (strs (D.map bs)) ∧ (D = [] → u = .slice none 0 0) ∧ Below w.heap.size w wr) (fun _ _ i _ => s.length + 1 - (intOf i).toNat)
  case atStart => exact ⟨0, 0, [], rfl, rfl, Nat.zero_le _, Cut.start s, World.ownsRow_nil _ _ _ _, fun _ => rfl, Below.refl _ _⟩
  case round =>
    obtain ⟨k, a, D, rfl, rfl, hk, hcut, hrow, hnil, hbel⟩ := hrel
    have hDl : (D.map bs).length ≤ 60001 := by have := hcut.1; simp; omega
    have hbs := hbel.size
    by_cases hlt : k < s.length
    · have hix := HI.out k hlt
      have hal := hcut.le (by omega)
      by_cases hb : s[k].toNat = 44
      · have HC := Lib.hid (hcut.comma hlt hb)
        have hx := HX.out a k
        rw [hb] at hix
        have hix2 : ∀ W : World, (Instr.index 9 (.string S) (.int .i64 (k : Int))).run Tryz.prog W = .ok (.int .u8 44) W := hix
        generalize hcur : (s.take k).drop a = cur at *
        have HM : Hid ((D ++ [cur]).map bs = D.map bs ++ [bs cur]) := by show (D ++ [cur]).map bs = _; simp
        clear hcut hix hb HI HX hcur
        generalize bs cur = C at *
        go_wp2_with (first
          | (at_builtin; refine wpList_append_own _ rfl _ _ 35 rfl w.heap.size 9 i0 (.string ⟨#[]⟩) 1 16 Tryz.underlying35 hi hz0 hz1 hz2 rfl (by decide) _ _ _ rfl (hrow.alloc _) ⟨wr.heap.size, 0, none⟩ 1 1 [.string C] rfl rfl (cell_one_new _ _ _) (str_one C) (by unfold maxLen; omega) (by omega) (by simp; omega) ?_; intro v' w2 hown' hgrow2 hnil2)
          | go_in)
        go_roundw
        case rel =>
          refine ⟨k + 1, k + 1, D ++ [cur], by go_num, by go_num, by omega, HC.out, ?_, fun e => by simp at e, ?_⟩
          · rw [HM.out, strs_snoc]
            simpa using hown'
          · exact (hbel.alloc hbel.size _).grown hgrow2 (by simp; omega) (fun j hj => (hrow.lt j hj).1)
        case measure => simp [intOf]; omega
      · have HC := Lib.hid (hcut.other hlt hb)
        have hq : ((s[k].toNat : Int) == 44) = false := by rw [beq_eq_false_iff_ne]; omega
        have hq2 : ((k : Int) == (s.length : Int)) = false := by rw [beq_eq_false_iff_ne]; omega
        clear hcut hb HI HX
        generalize (s[k]'hlt).toNat = n at *
        go_wp2_with fail
        go_roundw
        case rel => exact ⟨k + 1, a, D, by go_num, rfl, by omega, HC.out, hrow, hnil, hbel⟩
        case measure => simp [intOf]; omega
    · by_cases hkl : k = s.length
      · subst hkl
        have hal := hcut.le (Nat.le_refl _)
        have HC := Lib.hid hcut.last
        have hx := HX.out a s.length
        generalize hcur : (s.take s.length).drop a = cur at *
        have HM : Hid ((D ++ [cur]).map bs = D.map bs ++ [bs cur]) := by show (D ++ [cur]).map bs = _; simp
        clear hcut HI HX hcur hlt
        generalize bs cur = C at *
        go_wp2_with (first
          | (at_builtin; refine wpList_append_own _ rfl _ _ 35 rfl w.heap.size 9 i0 (.string ⟨#[]⟩) 1 16 Tryz.underlying35 hi hz0 hz1 hz2 rfl (by decide) _ _ _ rfl (hrow.alloc _) ⟨wr.heap.size, 0, none⟩ 1 1 [.string C] rfl rfl (cell_one_new _ _ _) (str_one C) (by unfold maxLen; omega) (by omega) (by simp; omega) ?_; intro v' w2 hown' hgrow2 hnil2)
          | go_in)
        go_roundw
        case rel =>
          refine ⟨s.length + 1, s.length + 1, D ++ [cur], by go_num, by go_num, by omega, HC.out, ?_, fun e => by simp at e, ?_⟩
          · rw [HM.out, strs_snoc]
            simpa using hown'
          · exact (hbel.alloc hbel.size _).grown hgrow2 (by simp; omega) (fun j hj => (hrow.lt j hj).1)
        case measure => simp [intOf]
      · have hke : k = s.length + 1 := by omega
        subst hke
        have hD := hcut.done
        have HNg : Hid (∀ g, u3.ownBlock = some g → w.heap.size ≤ g) := fun g hg => (hrow.lt g hg).1
        have HCp : Hid (∀ ao cap, u3 = .slice ao (partsL s).length cap → (partsL s).length ≤ cap) := fun ao cap hu => by
          rw [← hD]
          rcases hrow.2 with ⟨h1, h2⟩ | ⟨g, cap', cur, h1, _, _, hc, _⟩
          · have : D.length = 0 := by simpa using h2
            omega
          · rw [hu] at h1
            injection h1 with _ _ h3
            have : (D.map bs).length = D.length := by simp
            omega
        have HT : Hid (TextsAt wr u3 ((partsL s).map bs)) := by
          show TextsAt wr u3 ((partsL s).map bs)
          rw [← hD]
          exact TextsAt.ofRow hrow (fun e => hnil (by simpa using e))
        clear hcut hD hrow hnil HI HX hlt hkl
        go_wp2_with fail
        go_ret
        exact ⟨_, rfl, HT.out, hbel, HNg.out, HCp.out⟩

theorem rParts_any (s : List UInt8) (hs : s.length ≤ 60000) (w : World) : Calls Tryz.prog 207 #[.string (bs s)] w fun e w' => ∃ u, e = .returned u ∧ TextsAt w' u ((partsL s).map bs) ∧ Below w.heap.size w w' :=
  (rParts_new s hs w).mono fun _ _ ⟨u, h1, h2, h3, _⟩ => ⟨u, h1, h2, h3⟩

set_option maxRecDepth 100000 in
theorem rSplit_new (s : List UInt8) (hs : s.length ≤ 60000) (w : World) : Calls Tryz.prog 165 #[.string (bs s)] w fun e w' => ∃ u, e = .returned (.tuple #[u, .int .i64 ((splitP s).2 : Int)]) ∧ TextsAt w' u ((splitP s).1.map bs) ∧ Below w.heap.size w w' ∧ (∀ g, u.ownBlock = some g → w.heap.size ≤ g) ∧ (∀ ao cap, u = .slice ao (splitP s).1.length cap → (splitP s).1.length ≤ cap) := by
  have hsz := bs_size s
  by_cases h0 : s = []
  · subst h0
    rw [show bs ([] : List UInt8) = ⟨#[]⟩ from rfl]
    have HE : Hid (splitP [] = ([], 0)) := rfl
    go_enter Tryz.func165, Tryz.ntmps165
    go_wp2
    go_ret2
    exact ⟨.slice none 0 0, by rw [HE.out]; rfl, by rw [HE.out]; exact TextsAt.nil _, Below.refl _ _, fun g hg => by simp [Value.ownBlock] at hg, by rw [HE.out]; intro _ _ _; exact Nat.zero_le _⟩
  · have hpos : 1 ≤ s.length := List.length_pos_iff.2 h0
    have hq : ((s.length : Int) == 0) = false := by rw [beq_eq_false_iff_ne]; omega
    have HP := Lib.hid (fun W => rParts_new s hs W)
    have hpl := partsL_len s
    have hps : ∀ x ∈ partsL s, x.length ≤ 1000000 := by
      intro x hx
      have h1 := join_parts s
      have h2 : x.length ≤ (joinL (partsL s)).length := by
        have : ∀ (xs : List (List UInt8)), x ∈ xs → x.length ≤ (joinL xs).length := by
          intro xs
          induction xs with
          | nil => intro h; cases h
          | cons a r ih =>
            intro h
            cases r with
            | nil =>
              rw [joinL_one]
              simp at h
              rw [h]; exact Nat.le_refl _
            | cons b r =>
              rw [joinL_cons, List.length_append, List.length_cons]
              rcases List.mem_cons.1 h with h | h
              · rw [h]; omega
              · have := ih h; omega
        exact this _ hx
      rw [h1] at h2
      omega
    have HW := Lib.hid (fun (W : World) (u : Value) (hu : TextsAt W u ((partsL s).map bs)) => rWrong_any hu (by unfold maxLen; omega) hps)
    have HE : Hid (splitP s = if checkP (partsL s) = 0 then (partsL s, 0) else ([], checkP (partsL s))) := by
      show splitP s = _
      unfold splitP
      rw [if_neg h0]
    clear hps hpl
    generalize hx : partsL s = xs at *
    clear hx
    generalize bs s = S at *
    generalize hc : checkP xs = c at *
    clear hc
    by_cases hc0 : c = 0
    · subst hc0
      go_enter Tryz.func165, Tryz.ntmps165
      go_wp2_with (first
        | (go_at_call 207; refine (HP.out _).mono ?_; rintro e w1 ⟨u, rfl, hu, b1, hng, hcp⟩)
        | (go_at_call 171; refine (HW.out _ _ hu).mono ?_; rintro e w2 ⟨rfl, rfl⟩))
      go_ret2
      exact ⟨u, by rw [HE.out]; rfl, by rw [HE.out]; exact hu, b1, hng, by rw [HE.out]; exact hcp⟩
    · have hq2 : ((c : Int) != 0) = true := by rw [bne_iff_ne]; omega
      have HE2 : Hid (splitP s = ([], c)) := by
        show splitP s = _
        rw [HE.out, if_neg hc0]
      go_enter Tryz.func165, Tryz.ntmps165
      go_wp2_with (first
        | (go_at_call 207; refine (HP.out _).mono ?_; rintro e w1 ⟨u, rfl, hu, b1, hng, hcp⟩)
        | (go_at_call 171; refine (HW.out _ _ hu).mono ?_; rintro e w2 ⟨rfl, rfl⟩))
      go_ret2
      exact ⟨.slice none 0 0, by rw [HE2.out]; rfl, by rw [HE2.out]; exact TextsAt.nil _, b1, fun g hg => by simp [Value.ownBlock] at hg, by rw [HE2.out]; intro _ _ _; exact Nat.zero_le _⟩

theorem rSplit_any (s : List UInt8) (hs : s.length ≤ 60000) (w : World) : Calls Tryz.prog 165 #[.string (bs s)] w fun e w' => ∃ u, e = .returned (.tuple #[u, .int .i64 ((splitP s).2 : Int)]) ∧ TextsAt w' u ((splitP s).1.map bs) ∧ Below w.heap.size w w' :=
  (rSplit_new s hs w).mono fun _ _ ⟨u, h1, h2, h3, _⟩ => ⟨u, h1, h2, h3⟩

theorem splitK_le : ∀ (k : Nat) (s : List UInt8), ∀ x ∈ Lib.splitK [44] 0 k s, x.length ≤ s.length
  | 0, s, x, hx => by
    simp only [Lib.splitK, List.mem_singleton] at hx
    rw [hx]
    exact Nat.le_refl _
  | k + 1, s, x, hx => by
    unfold Lib.splitK at hx
    split at hx
    · simp only [List.mem_singleton] at hx
      rw [hx]
      exact Nat.le_refl _
    · rcases List.mem_cons.1 hx with hx | hx
      · rw [hx, List.length_take]
        exact Nat.min_le_right _ _
      · have := splitK_le k _ x hx
        rw [List.length_drop] at this
        omega
theorem bs_back (L : List ByteArray) : (L.map (·.data.toList)).map bs = L := by
  rw [List.map_map]
  exact (List.map_congr_left fun x _ => bs_list x).trans (List.map_id L)
/-- The array that SplitN leaves reads as its pieces. -/
theorem TextsAt.ofCells {w : World} (L : List ByteArray) {N : Nat} : TextsAt (w.alloc (.cells (Lib.cellsOf L N) 9)) (.slice (some ⟨w.heap.size, 0, none⟩) L.length N) L := by
  refine ⟨_, N, rfl, fun _ => ⟨_, 0, rfl, by simp, fun k x hk => ?_⟩⟩
  have hk' := (List.getElem?_eq_some_iff.1 hk).1
  rw [Holds.cell (Holds.new w 9 (Lib.cellsOf L N)) (0 + k), Nat.zero_add]
  unfold Lib.cellsOf
  rw [List.getElem?_toArray, List.getElem?_append_left (by simpa using hk'), List.getElem?_map, hk]
  rfl

/-- The library's first variable lies in its cell. -/
def VarAt (w : World) : Prop := ∃ m : Int, w.cell? ⟨1, 0, none⟩ = some (.int .i64 m)
theorem VarAt.below {w w' : World} {n : Nat} (h : VarAt w) (hb : Below n w w') (hn : 1 < n) : VarAt w' := by
  obtain ⟨m, hm⟩ := h
  exact ⟨m, (hb.cell (p := ⟨1, 0, none⟩) hn).trans hm⟩
theorem VarAt.pos {w : World} (h : VarAt w) : 1 < w.heap.size := by
  obtain ⟨m, hm⟩ := h
  exact World.block_lt_of_cell? w _ hm

set_option maxRecDepth 100000 in
theorem nSplit_new (s : List UInt8) (hs : s.length ≤ 60000) (w : World) (hV : VarAt w) : Calls Tryz.prog 147 #[.string (bs s)] w fun e w' => ∃ u, e = .returned (.tuple #[u, .int .i64 ((splitP s).2 : Int)]) ∧ TextsAt w' u ((splitP s).1.map bs) ∧ (∀ ao cap, u = .slice ao (splitP s).1.length cap → (splitP s).1.length ≤ cap) ∧ Below w.heap.size w w' ∧ (∀ g, u.ownBlock = some g → w.heap.size ≤ g) := by
  have hsz := bs_size s
  by_cases h0 : s = []
  · subst h0
    rw [show bs ([] : List UInt8) = ⟨#[]⟩ from rfl]
    have HE : Hid (splitP [] = ([], 0)) := rfl
    go_enter Tryz.func147, Tryz.ntmps147
    go_wp2
    go_ret2
    exact ⟨.slice none 0 0, by rw [HE.out]; rfl, by rw [HE.out]; exact TextsAt.nil _, by rw [HE.out]; intro _ _ _; exact Nat.zero_le _, Below.refl _ _, fun g hg => by simp [Value.ownBlock] at hg⟩
  · have hne : (bs s).toList.isEmpty = false := by rw [bs_isEmpty]; simpa using h0
    obtain ⟨m, hm⟩ := hV
    have hN := Tryz.strings_SplitN (bs s) (bs [44]) 17 m w (by omega) hm (by rw [bs_size]; simp) (by omega) (by omega)
    rw [show bs [44] = ⟨#[44]⟩ from rfl, hsz] at hN
    have hsd := Lib.splitB_data ⟨#[44]⟩ 0 (min 17 (s.length + 1) - 1) (bs s)
    have hsl := Lib.splitB_length_le ⟨#[44]⟩ 0 (min 17 (s.length + 1) - 1) (bs s)
    obtain ⟨h1, h2⟩ := splitN_check s
    rw [show (⟨#[44]⟩ : ByteArray).data.toList = [44] from rfl, show (bs s).data.toList = s by simp [bs]] at hsd
    rw [← hsd] at h1 h2
    generalize hL : Lib.splitB ⟨#[44]⟩ 0 (min 17 (s.length + 1) - 1) (bs s) = L at *
    have hLN : L.length ≤ min 17 (s.length + 1) := by omega
    have hTx := TextsAt.ofCells (w := w) L (N := min 17 (s.length + 1))
    have hb1 : Below w.heap.size w (w.alloc (.cells (Lib.cellsOf L (min 17 (s.length + 1))) 9)) := (Below.refl _ _).alloc (Nat.le_refl _) _
    have hback := bs_back L
    have hx1 : ∀ x ∈ L.map (·.data.toList), x.length ≤ 1000000 := by
      intro x hx
      rw [hsd] at hx
      have := splitK_le _ s x hx
      omega
    have hC := nCheck_any (v := .slice (some ⟨w.heap.size, 0, none⟩) L.length (min 17 (s.length + 1))) (xs := L.map (·.data.toList)) (by rw [hback]; exact hTx) (by simp [maxLen]; omega) hx1
    rw [h1] at hC
    have HE : Hid (splitP s = if checkP (partsL s) = 0 then (partsL s, 0) else ([], checkP (partsL s))) := by
      show splitP s = _
      unfold splitP
      rw [if_neg h0]
    generalize w.alloc (.cells (Lib.cellsOf L (min 17 (s.length + 1))) 9) = W1 at *
    have HN := Lib.hid hN
    have HC := Lib.hid hC
    have HT := Lib.hid hTx
    have HB := Lib.hid hb1
    have H2 := Lib.hid h2
    clear hN hC hTx hb1 h2 h1 hsd hsl hL hx1
    generalize partsL s = xs at *
    generalize bs s = S at *
    generalize hc : checkP xs = c at *
    generalize min 17 (s.length + 1) = N at *
    by_cases hc0 : c = 0
    · subst hc0
      have hxs : Hid (xs.map bs = L) := by
        show xs.map bs = L
        rw [← H2.out rfl, hback]
      have HE2 : Hid (splitP s = (xs, 0)) := HE.out
      have hll : xs.length = L.length := by rw [← hxs.out]; simp
      have hLL := Lib.hid hll
      clear hll hback
      go_enter Tryz.func147, Tryz.ntmps147
      go_wp2_with (first
        | (go_at_call 193; refine HN.out.mono ?_; rintro e w1 ⟨rfl, rfl⟩)
        | (go_at_call 194; refine HC.out.mono ?_; rintro e w2 ⟨rfl, b2⟩))
      go_ret2
      refine ⟨.slice (some ⟨w.heap.size, 0, none⟩) L.length N, by rw [HE2.out]; rfl, by rw [HE2.out]; show TextsAt _ _ (xs.map bs); rw [hxs.out]; exact HT.out.below b2, ?_, HB.out.trans (b2.mono HB.out.size), fun g hg => by simp [Value.ownBlock] at hg; omega⟩
      rw [HE2.out]
      intro ao cap e
      simp only [Value.slice.injEq] at e
      have := hLL.out
      show xs.length ≤ cap
      omega
    · have hq2 : ((c : Int) != 0) = true := by rw [bne_iff_ne]; omega
      have HE2 : Hid (splitP s = ([], c)) := by
        show splitP s = _
        rw [HE.out, if_neg hc0]
      clear hback
      go_enter Tryz.func147, Tryz.ntmps147
      go_wp2_with (first
        | (go_at_call 193; refine HN.out.mono ?_; rintro e w1 ⟨rfl, rfl⟩)
        | (go_at_call 194; refine HC.out.mono ?_; rintro e w2 ⟨rfl, b2⟩))
      go_ret2
      exact ⟨.slice none 0 0, by rw [HE2.out]; rfl, by rw [HE2.out]; exact TextsAt.nil _, by rw [HE2.out]; intro _ _ _; exact Nat.zero_le _, HB.out.trans (b2.mono HB.out.size), fun g hg => by simp [Value.ownBlock] at hg⟩
theorem nSplit_any (s : List UInt8) (hs : s.length ≤ 60000) (w : World) (hV : VarAt w) : Calls Tryz.prog 147 #[.string (bs s)] w fun e w' => ∃ u, e = .returned (.tuple #[u, .int .i64 ((splitP s).2 : Int)]) ∧ TextsAt w' u ((splitP s).1.map bs) ∧ (∀ ao cap, u = .slice ao (splitP s).1.length cap → (splitP s).1.length ≤ cap) ∧ Below w.heap.size w w' :=
  (nSplit_new s hs w hV).mono fun _ _ ⟨u, h1, h2, h3, h4, _⟩ => ⟨u, h1, h2, h3, h4⟩
end Go.Proofs.YtkmhdepohcncaaaGreatDoor
