/- Part 33 of what the statement wants. -/
import Derived.Test.YtlalkpgipenkaaaGreatDoorPk13
import Derived.Test.YtlalkpgipenkaaaGreatDoorPk32
namespace Go.Proofs.YtlalkpgipenkaaaGreatDoor
open Go.RowKit

def dataT (t : List UInt8) : Option (List UInt8) := if kindL t = 1 then some (t.drop 5) else none
def fbT (t : List UInt8) : Option (List UInt8) := if t = [] then none else if kindL t ≠ 1 then some t else if opqL (t.drop 5) = true then none else some (t.drop 5)
def formT (k : UInt8) (t : List UInt8) : Option (List UInt8) := if k = 116 then (fbT t).map cnt else dataT t

theorem data_ent {L : List Ent} (hG : Good L) {n : Nat} {e : Ent} (he : L[n]? = some e) : kindL (enc L n) = e.sh.kind ∧ (e.sh.kind = 1 → (enc L n).drop 5 = e.sh.s.data.toList ∧ e.sh.args = []) := by
  have hsh := hG.sh n e he
  have henc := hG.enc_eq he
  refine ⟨by rw [henc, kind_head hsh], fun hk => ?_⟩
  rw [henc]
  generalize e.sh = sh at *
  cases hsh with
  | data s => exact ⟨by simp [headL, cnt, pack4], rfl⟩
  | nonce | key | pub | share | sig | hash | derive | sealed | list => simp at hk
/-- What an answer of a string and a truth value is, by what it stands for. -/
def SomeS (q : Option (List UInt8)) (w : World) (e : Ending) (w' : World) : Prop :=
  Below w.heap.size w w' ∧ ∃ (s : ByteArray) (is : Bool), e = .returned (.tuple #[.string s, .bool is]) ∧ is = q.isSome ∧ ∀ x, q = some x → s = bs x

set_option maxHeartbeats 1000000 in
set_option maxRecDepth 100000 in
theorem pData_any {B A : Nat} {L : List Ent} {F : Nat → Prop} {w : World} (ha : ArenaAt B A L F w) (hG : Good L) {i : Int} {t : List UInt8} (ht : TAt L i t) :
    Calls Tryz.prog 114 #[.pointer (some ⟨A, 0, none⟩), .int .i64 i] w (SomeS (dataT t) w) := by
  have HV : Hid (Calls Tryz.prog 24 #[.pointer (some ⟨A, 0, none⟩), .int .i64 i] w fun r w' => ∃ (k a b : Int) (s : ByteArray) (v : Value) (f : Bool), r = .returned (.tuple #[.agg #[.int .i64 k, .int .i64 a, .int .i64 b, .string s, v], .bool f]) ∧ Below w.heap.size w w' ∧ (k == 1) = (dataT t).isSome ∧ (∃ ao n c, v = .slice ao n c) ∧ ∀ x, dataT t = some x → s = bs x) := by
    rcases ht with ⟨rfl, rfl⟩ | ⟨n, rfl, hn, rfl⟩
    · exact (View_no ha (-1) (by omega)).mono fun r w' ⟨h1, h2⟩ => ⟨_, _, _, _, _, _, h1, h2, rfl, ⟨_, _, _, rfl⟩, fun x hx => by simp [dataT, kindL] at hx⟩
    · obtain ⟨h1, h2⟩ := data_ent hG (List.getElem?_eq_getElem hn)
      refine (view_cells ha (List.getElem?_eq_getElem hn)).mono fun r w' ⟨g, h3, _, h4⟩ => ⟨_, _, _, _, _, _, h3, h4, ?_, ⟨_, _, _, rfl⟩, fun x hx => ?_⟩
      · unfold dataT
        rw [h1]
        by_cases hk : (L[n]'hn).sh.kind = 1
        · rw [if_pos hk, hk]; rfl
        · rw [if_neg hk]
          simp only [Option.isSome_none, beq_eq_false_iff_ne]
          omega
      · unfold dataT at hx
        rw [h1] at hx
        by_cases hk : (L[n]'hn).sh.kind = 1
        · rw [if_pos hk, (h2 hk).1] at hx
          injection hx with hx
          rw [← hx, bs_list]
        · rw [if_neg hk] at hx; cases hx
  generalize dataT t = q at *
  go_enter Tryz.func114, Tryz.ntmps114
  go_wp2_with fail
  go_at_call 24
  refine HV.out.mono ?_
  rintro e w1 ⟨k, a, b, s, v, fl, rfl, b1, hk, ⟨ao, n, c, rfl⟩, hs⟩
  have hr := Holds.new w1 60 #[.int .i64 k, .int .i64 a, .int .i64 b, .string s, .slice ao n c]
  have y0 := hr.cell 0
  have y3 := hr.cell 3
  have HB := Lib.hid (b1.alloc b1.size (.cells #[.int .i64 k, .int .i64 a, .int .i64 b, .string s, .slice ao n c] 60))
  have HK := Lib.hid hk
  have HS := Lib.hid hs
  clear hk hs b1 HV hr
  go_wp2_with fail
  generalize w1.alloc (.cells #[.int .i64 k, .int .i64 a, .int .i64 b, .string s, .slice ao n c] 60) = W2 at *
  go_quiet (fail)
  go_wp2_with fail
  go_ret2
  exact ⟨belN HB.out _, s, _, rfl, HK.out, HS.out⟩

set_option maxRecDepth 100000 in
theorem fdBytes1_any {w : World} {N : Nat} {s : List UInt8} (hs : s.length ≤ 131072) (hN : w.cell? ⟨N, 3, none⟩ = some (.string (bs s))) :
    Calls Tryz.prog 185 #[.pointer (some ⟨N, 0, none⟩)] w (SomeS (if opqL s = true then none else some s) w) := by
  have HO := Lib.hid (fun W => Opaque_is s hs W)
  have HC : Hid (∀ W, Below w.heap.size w W → W.cell? ⟨N, 3, none⟩ = some (.string (bs s))) := fun W hb => (hb.cell (p := ⟨N, 3, none⟩) (World.block_lt_of_cell? w _ hN)).trans hN
  cases ho : opqL s with
  | true =>
    rw [ho] at HO
    rw [if_pos rfl]
    obtain ⟨S, hS⟩ : ∃ S, S = bs s := ⟨_, rfl⟩
    rw [← hS] at hN HO HC
    clear hS
    go_enter Tryz.func185, Tryz.ntmps185
    go_wp2_with (go_at_call 101; (refine (HO.out _).mono ?_); rintro e w1 ⟨rfl, b1⟩; have c3 := HC.out _ b1)
    go_ret2
    exact ⟨b1, _, _, rfl, rfl, fun x h => by cases h⟩
  | false =>
    rw [ho] at HO
    rw [if_neg (by simp)]
    have HS : Hid (∃ S, S = bs s) := ⟨_, rfl⟩
    obtain ⟨S, hS⟩ := HS.out
    rw [← hS] at hN HO HC
    have HSS := Lib.hid hS
    clear hS HS
    go_enter Tryz.func185, Tryz.ntmps185
    go_wp2_with (go_at_call 101; (refine (HO.out _).mono ?_); rintro e w1 ⟨rfl, b1⟩; have c3 := HC.out _ b1)
    go_ret2
    exact ⟨b1, _, _, rfl, rfl, fun x h => by injection h with h; rw [← h]; exact HSS.out⟩

set_option maxRecDepth 100000 in
theorem fdBytes2_any {B A : Nat} {L : List Ent} {F : Nat → Prop} {w : World} (ha : ArenaAt B A L F w) (hG : Good L) {n : Nat} {e : Ent} (he : L[n]? = some e) {X Y : Nat}
    (hX : w.cell? ⟨X, 0, none⟩ = some (.pointer (some ⟨A, 0, none⟩))) (hY : w.cell? ⟨Y, 0, none⟩ = some (.int .i64 (n : Int))) :
    Calls Tryz.prog 186 #[.pointer (some ⟨X, 0, none⟩), .pointer (some ⟨Y, 0, none⟩)] w (SomeS (some (enc L n)) w) := by
  have hsh := TAt.short hG (.inr ⟨n, rfl, (List.getElem?_eq_some_iff.1 he).1, rfl⟩)
  have HE := Lib.hid (Encode_any ha hG.encodable he (by omega))
  obtain ⟨T, hT⟩ : ∃ T, T = enc L n := ⟨_, rfl⟩
  rw [← hT] at HE ⊢
  clear hT hsh
  have HS : Hid (∃ S, S = bs T) := ⟨_, rfl⟩
  obtain ⟨S, hS⟩ := HS.out
  rw [← hS] at HE
  have HSS := Lib.hid hS
  clear hS HS
  go_enter Tryz.func186, Tryz.ntmps186
  go_wp2_with (go_at_call 20; (refine HE.out.mono ?_); rintro e w1 ⟨rfl, b1⟩)
  go_ret2
  exact ⟨b1, _, _, rfl, rfl, fun x h => by injection h with h; rw [← h]; exact HSS.out⟩

set_option maxHeartbeats 1000000 in
set_option maxRecDepth 100000 in
theorem fdBytes_any {B A : Nat} {L : List Ent} {F : Nat → Prop} {w : World} (ha : ArenaAt B A L F w) (hG : Good L) {i : Int} {t : List UInt8} (ht : TAt L i t) :
    Calls Tryz.prog 141 #[.pointer (some ⟨A, 0, none⟩), .int .i64 i] w (SomeS (fbT t) w) := by
  have hmf : ∀ (fn : Fn) (first cap : Array Value) (w : World), (Instr.makeFunc fn first cap).run Tryz.prog w = .ok (.func fn first cap) w := fun _ _ _ _ => rfl
  have hx0 := Holds.new w 25 #[.pointer (some ⟨A, 0, none⟩)]
  have hy0 := Holds.new (w.alloc (.cells #[.pointer (some ⟨A, 0, none⟩)] 25)) 34 #[.int .i64 i]
  have m0 : Moves nobody w ((w.alloc (.cells #[.pointer (some ⟨A, 0, none⟩)] 25)).alloc (.cells #[.int .i64 i] 34)) := ((Moves.refl nobody w).alloc _).alloc _
  have hx1 := hx0.moves ((Moves.refl nobody (w.alloc (.cells #[.pointer (some ⟨A, 0, none⟩)] 25))).alloc (.cells #[.int .i64 i] 34)) (fun h => h)
  rw [World.size_alloc] at hy0
  have hb0 : Below w.heap.size w ((w.alloc (.cells #[.pointer (some ⟨A, 0, none⟩)] 25)).alloc (.cells #[.int .i64 i] 34)) := ((Below.refl _ w).alloc (Nat.le_refl _) _).alloc (by simp) _
  have HX := Lib.hid hx1
  have HY := Lib.hid hy0
  have HB0 := Lib.hid hb0
  have ha0 := Lib.hid (ha.below hb0)
  have hsz0 : ((w.alloc (.cells #[.pointer (some ⟨A, 0, none⟩)] 25)).alloc (.cells #[.int .i64 i] 34)).heap.size = w.heap.size + 2 := by simp
  clear hx0 hy0 hx1 m0 hb0
  rcases ht with ⟨rfl, rfl⟩ | ⟨n, rfl, hn, rfl⟩
  · have HV := Lib.hid (View_no ha0.out (-1) (by omega))
    have hq : fbT [] = none := rfl
    rw [hq]
    unfold noNode at HV
    have cx := HX.out.cell 0
    have cy := HY.out.cell 0
    clear ha0 hsz0 hq
    go_enter Tryz.func141, Tryz.ntmps141
    go_wp2_with (go_at_call 24; (refine HV.out.mono ?_); rintro e w1 ⟨rfl, b1⟩)
    go_ret2
    have h1 := HB0.out.trans (b1.mono HB0.out.size)
    exact ⟨h1.alloc h1.size _, _, _, rfl, rfl, fun x h => by cases h⟩
  · have he : L[n]? = some (L[n]'hn) := List.getElem?_eq_getElem hn
    obtain ⟨h1, h2⟩ := data_ent hG he
    have hne := enc_ne hG hn
    have hsh := TAt.short hG (.inr ⟨n, rfl, hn, rfl⟩)
    have HV := Lib.hid (view_cells ha0.out he)
    have cx := HX.out.cell 0
    have cy := HY.out.cell 0
    have HE : Hid (∀ (W : World), Below ((w.alloc (.cells #[.pointer (some ⟨A, 0, none⟩)] 25)).alloc (.cells #[.int .i64 (n : Int)] 34)).heap.size ((w.alloc (.cells #[.pointer (some ⟨A, 0, none⟩)] 25)).alloc (.cells #[.int .i64 (n : Int)] 34)) W → Calls Tryz.prog 186 #[.pointer (some ⟨w.heap.size, 0, none⟩), .pointer (some ⟨w.heap.size + 1, 0, none⟩)] W (SomeS (some (enc L n)) W)) := fun W hb =>
      fdBytes2_any (ha0.out.below hb) hG he ((HX.out.moves (Moves.ofBelow (S := nobody) hb) (fun h => h)).cell 0) ((HY.out.moves (Moves.ofBelow (S := nobody) hb) (fun h => h)).cell 0)
    by_cases hk : (L[n]'hn).sh.kind = 1
    · obtain ⟨h3, h4⟩ := h2 hk
      have hq : fbT (enc L n) = if opqL ((enc L n).drop 5) = true then none else some ((enc L n).drop 5) := by
        unfold fbT
        rw [if_neg hne, if_neg (by rw [h1, hk]; simp)]
      have hsl : ((enc L n).drop 5).length ≤ 131072 := by rw [List.length_drop]; omega
      have hs2 : bs ((enc L n).drop 5) = (L[n]'hn).sh.s := by rw [h3, bs_list]
      rw [hq]
      generalize (enc L n).drop 5 = sx at *
      have HF := Lib.hid (fun (W : World) (N : Nat) (h : W.cell? ⟨N, 3, none⟩ = some (.string (bs sx))) => fdBytes1_any hsl h)
      rw [hs2] at HF
      rw [hk] at HV
      generalize (if opqL sx = true then none else some sx) = q at *
      generalize (L[n]'hn).sh.a = va at *
      generalize (L[n]'hn).sh.b = vb at *
      generalize (L[n]'hn).sh.s = vs at *
      generalize (argsI (L[n]'hn)) = al at *
      clear h1 h2 hne hsh hk h3 h4 hq hsl hs2 he HE hsz0 ha0
      go_enter Tryz.func141, Tryz.ntmps141
      go_wp2_with (first
        | (go_at_call 24; (refine HV.out.mono ?_); rintro e w1 ⟨g, rfl, _, b1⟩)
        | fail)
      have hr := Holds.new w1 60 #[.int .i64 1, .int .i64 (va : Int), .int .i64 (vb : Int), .string vs, .slice (some ⟨g, 0, none⟩) al.length al.length]
      have hb1 := HB0.out.trans (b1.mono HB0.out.size)
      have hb2 := hb1.alloc hb1.size (.cells #[.int .i64 1, .int .i64 (va : Int), .int .i64 (vb : Int), .string vs, .slice (some ⟨g, 0, none⟩) al.length al.length] 60)
      have HB2 := Lib.hid hb2
      have HFx := Lib.hid (HF.out _ w1.heap.size (hr.cell 3))
      clear hr hb1 hb2 HF
      (refine HFx.out.mono ?_)
      rintro e w5 ⟨b5, s5, is5, rfl, h6, h7⟩
      have H6 := Lib.hid h6
      have H7 := Lib.hid h7
      clear h6 h7
      go_wp2_with fail
      go_ret2
      exact ⟨HB2.out.trans (b5.mono HB2.out.size), s5, is5, rfl, H6.out, H7.out⟩
    · have hq : fbT (enc L n) = some (enc L n) := by
        unfold fbT
        rw [if_neg hne, if_pos (by rw [h1]; exact hk)]
      rw [hq]
      have hkn : ((((L[n]'hn).sh.kind : Nat) : Int) == 1) = false := by rw [beq_eq_false_iff_ne]; omega
      generalize some (enc L n) = q at *
      generalize (L[n]'hn).sh.kind = vk at *
      generalize (L[n]'hn).sh.a = va at *
      generalize (L[n]'hn).sh.b = vb at *
      generalize (L[n]'hn).sh.s = vs at *
      generalize (argsI (L[n]'hn)) = al at *
      clear h1 h2 hne hsh hk hq he hsz0 ha0
      go_enter Tryz.func141, Tryz.ntmps141
      go_wp2_with (first
        | (go_at_call 24; (refine HV.out.mono ?_); rintro e w1 ⟨g, rfl, _, b1⟩)
        | fail)
      have hb2 := b1.alloc b1.size (.cells #[.int .i64 (vk : Int), .int .i64 (va : Int), .int .i64 (vb : Int), .string vs, .slice (some ⟨g, 0, none⟩) al.length al.length] 60)
      have HEx := Lib.hid (HE.out _ hb2)
      have HB2 := Lib.hid (HB0.out.trans (hb2.mono HB0.out.size))
      clear hb2 HE
      (refine HEx.out.mono ?_)
      rintro e w5 ⟨b5, s5, is5, rfl, h6, h7⟩
      have H6 := Lib.hid h6
      have H7 := Lib.hid h7
      clear h6 h7
      go_wp2_with fail
      go_ret2
      exact ⟨HB2.out.trans (b5.mono HB2.out.size), s5, is5, rfl, H6.out, H7.out⟩

set_option maxHeartbeats 1000000 in
set_option maxRecDepth 100000 in
theorem pForm_any {B A : Nat} {L : List Ent} {F : Nat → Prop} {w : World} (ha : ArenaAt B A L F w) (hG : Good L) {i : Int} {t : List UInt8} (ht : TAt L i t) (k : UInt8) :
    Calls Tryz.prog 115 #[.pointer (some ⟨A, 0, none⟩), .int .i32 (k.toNat : Int), .int .i64 i] w (SomeS (formT k t) w) := by
  have hkl := UInt8.toNat_lt k
  by_cases hk : k = 116
  · subst hk
    have hlen : ∀ x, fbT t = some x → x.length ≤ 131072 := fun x hx => by
      have := TAt.short hG ht
      unfold fbT at hx
      split at hx
      · cases hx
      · split at hx
        · injection hx with hx; rw [← hx]; exact this
        · split at hx
          · cases hx
          · injection hx with hx; rw [← hx, List.length_drop]; omega
    have HB := Lib.hid (fdBytes_any ha hG ht)
    have hq : formT 116 t = (fbT t).map cnt := rfl
    rw [hq]
    cases hf : fbT t with
    | none =>
      rw [hf] at HB
      clear hlen hf hq
      rw [show ((116 : UInt8).toNat : Int) = 116 from rfl]
      go_enter Tryz.func115, Tryz.ntmps115
      go_wp2_with fail
      go_at_call 141
      (refine HB.out.mono ?_)
      rintro e w1 ⟨b1, s, is, rfl, h6, _⟩
      simp only [Option.isSome_none] at h6
      subst h6
      go_wp2_with fail
      go_ret2
      exact ⟨b1, _, _, rfl, rfl, fun x h => by cases h⟩
    | some y =>
      rw [hf] at HB
      have hyl := hlen y hf
      have HT := Lib.hid (fun W => wText_any y (by omega) W)
      have HQ : Hid (∀ x, (some y).map cnt = some x → bs (cnt y) = bs x) := fun x h => by simp only [Option.map_some, Option.some.injEq] at h; rw [h]
      clear hlen hf hq hyl
      rw [show ((116 : UInt8).toNat : Int) = 116 from rfl]
      have HBY : Hid (∃ Y, Y = bs y) := ⟨_, rfl⟩
      obtain ⟨Y, hY⟩ := HBY.out
      have HY := Lib.hid hY
      rw [← hY] at HT
      clear hY
      generalize bs (cnt y) = C at *
      have HS1 : Hid (∀ x, some y = some x → bs x = Y) := fun x h => by injection h with h; rw [← h, HY.out]
      go_enter Tryz.func115, Tryz.ntmps115
      go_wp2_with fail
      go_at_call 141
      (refine HB.out.mono ?_)
      rintro e w1 ⟨b1, s, is, rfl, h6, h7⟩
      simp only [Option.isSome_some] at h6
      have h8 : s = Y := (h7 y rfl).trans HY.out.symm
      clear h7
      subst h6 h8
      go_wp2_with (go_at_call 142; (refine (HT.out _).mono ?_); rintro e w2 ⟨rfl, b2⟩)
      go_ret2
      exact ⟨b1.trans (b2.mono b1.size), _, _, rfl, rfl, HQ.out⟩
  · have HD := Lib.hid (pData_any ha hG ht)
    have hq : formT k t = dataT t := if_neg hk
    rw [hq]
    have hkn : ((k.toNat : Int) != 116) = true := by
      rw [bne_iff_ne]
      intro e
      exact hk (UInt8.toNat_inj.1 (by show k.toNat = 116; omega))
    generalize dataT t = q at *
    clear hk hq
    generalize k.toNat = kn at *
    go_enter Tryz.func115, Tryz.ntmps115
    go_wp2_with fail
    go_at_call 114
    (refine HD.out.mono ?_)
    rintro e w1 ⟨b1, s, is, rfl, h6, h7⟩
    have H6 := Lib.hid h6
    have H7 := Lib.hid h7
    clear h6 h7
    go_wp2_with fail
    go_ret2
    exact ⟨b1, s, is, rfl, H6.out, H7.out⟩
end Go.Proofs.YtlalkpgipenkaaaGreatDoor

namespace Go.Proofs.YtlalkpgipenkaaaGreatDoor
open Go.RowKit

def mapFK (F : List UInt8) (ts : List (List UInt8)) : Nat → Option (List (List UInt8))
  | 0 => some []
  | k + 1 => match mapFK F ts k, formT (F.getD k 0) (ts.getD k []) with
    | some xs, some x => some (xs ++ [x])
    | _, _ => none
/-- What the parts of a message's term stand for: its number, the wire forms. -/
def formsW : List (List UInt8) → Option (List (List UInt8))
  | [] => none
  | t0 :: r => match dataT t0 with
    | some [b] => if (fitP (formsP (b.toNat : Int)) (r.length : Int)).2 = true then (mapFK (lettersOf (fitP (formsP (b.toNat : Int)) (r.length : Int)).1) r r.length).map ([b] :: ·) else none
    | _ => none
theorem mapFK_none {F : List UInt8} {ts : List (List UInt8)} {k : Nat} (h : mapFK F ts k = none) : ∀ j, mapFK F ts (k + j) = none
  | 0 => h
  | j + 1 => by
    show (match mapFK F ts (k + j), _ with | some xs, some x => some (xs ++ [x]) | _, _ => none) = none
    rw [mapFK_none h j]
theorem mapFK_len {F : List UInt8} {ts : List (List UInt8)} : ∀ {k : Nat} {xs : List (List UInt8)}, mapFK F ts k = some xs → xs.length = k
  | 0, xs, h => by
    have : some [] = some xs := h
    injection this with this
    rw [← this]; rfl
  | k + 1, xs, h => by
    have h' : (match mapFK F ts k, formT (F.getD k 0) (ts.getD k []) with | some xs, some x => some (xs ++ [x]) | _, _ => none) = some xs := h
    cases h1 : mapFK F ts k with
    | none => rw [h1] at h'; cases h'
    | some ys =>
      cases h2 : formT (F.getD k 0) (ts.getD k []) with
      | none => rw [h1, h2] at h'; cases h'
      | some y =>
        rw [h1, h2] at h'
        injection h' with h'
        rw [← h', List.length_append, mapFK_len h1]; rfl
theorem mapFK_step {F : List UInt8} {ts : List (List UInt8)} {k : Nat} {xs : List (List UInt8)} {x : List UInt8} (h1 : mapFK F ts k = some xs) (h2 : formT (F.getD k 0) (ts.getD k []) = some x) : mapFK F ts (k + 1) = some (xs ++ [x]) := by
  show (match mapFK F ts k, formT (F.getD k 0) (ts.getD k []) with | some xs, some x => some (xs ++ [x]) | _, _ => none) = _
  rw [h1, h2]
theorem mapFK_stop {F : List UInt8} {ts : List (List UInt8)} {k n : Nat} (hk : k < n) (h2 : formT (F.getD k 0) (ts.getD k []) = none) : mapFK F ts n = none := by
  have h : mapFK F ts (k + 1) = none := by
    show (match mapFK F ts k, formT (F.getD k 0) (ts.getD k []) with | some xs, some x => some (xs ++ [x]) | _, _ => none) = _
    rw [h2]
    cases mapFK F ts k <;> rfl
  have := mapFK_none h (n - (k + 1))
  rwa [show k + 1 + (n - (k + 1)) = n by omega] at this

def FormsPost (ts : List (List UInt8)) (w : World) (e : Ending) (w' : World) : Prop :=
  Below w.heap.size w w' ∧ ∃ (u : Value) (is : Bool), e = .returned (.tuple #[u, .bool is]) ∧ is = (formsW ts).isSome ∧ ∀ fm, formsW ts = some fm → ∃ ao cap, u = .slice ao fm.length cap ∧ fm.length ≤ cap ∧ TextsAt w' u (fm.map bs)

structure FInv (w0 : World) (it : Nat) (f : ByteArray) (b : UInt8) (F : List UInt8) (ts : List (List UInt8)) (k : Nat) (u : Value) (wr : World) (xs : List (List UInt8)) : Prop where
  forms : mapFK F ts k = some xs
  bel : Below w0.heap.size w0 wr
  own : wr.ownsRow w0.heap.size 9 1 u (k + 1) (strs (([b] :: xs).map bs))
  itr : wr.heap[it]? = some (.stringIter f k)
  new : w0.heap.size ≤ it
theorem FInv.step {w0 : World} {it : Nat} {f : ByteArray} {b : UInt8} {F : List UInt8} {ts : List (List UInt8)} {k : Nat} {u u' : Value} {wr w2 w3 : World} {xs : List (List UInt8)} {x : List UInt8}
    (h : FInv w0 it f b F ts k u wr xs) (hx : formT (F.getD k 0) (ts.getD k []) = some x) (b2 : Below (wr.iterAt it f (k + 1)).heap.size (wr.iterAt it f (k + 1)) w2) (hg3 : Moves (fun i => u.ownBlock = some i) w2 w3)
    (hown : w3.ownsRow w0.heap.size 9 1 u' (k + 1 + 1) (strs (([b] :: (xs ++ [x])).map bs))) : FInv w0 it f b F ts (k + 1) u' w3 (xs ++ [x]) := by
  have mi := iter_moves wr it f (k + 1)
  have hit := Lib.iterAt_heap wr it f k (k + 1) h.itr
  have own1 := rdOwn_moves h.own mi (fun i hi e => own_ne_iter h.own h.itr (by rw [hi, e]))
  have own2 := rdOwn_moves own1 (Moves.ofBelow (S := nobody) b2) (fun _ _ h => h)
  have hB1 : Below w0.heap.size w0 (wr.iterAt it f (k + 1)) := h.bel.trans (mi.below h.bel.size fun i hi => by rw [hi]; exact h.new)
  have hB2 := hB1.trans (b2.mono hB1.size)
  have hit2 : w2.heap[it]? = some (.stringIter f (k + 1)) := (b2.block it (Array.getElem?_eq_some_iff.1 hit).1).trans hit
  have hit3 : w3.heap[it]? = some (.stringIter f (k + 1)) := (hg3.block it (Array.getElem?_eq_some_iff.1 hit2).1 (fun e => own_ne_iter own2 hit2 e)).trans hit2
  exact ⟨mapFK_step h.forms hx, hB2.trans (hg3.below hB2.size fun i hi => (own2.lt i hi).1), hown, hit3, h.new⟩
end Go.Proofs.YtlalkpgipenkaaaGreatDoor
