/- What was written is read as it was.
A message that was encoded is read by its own form, and by none before it.
Of a message that was encoded, the first form that fits is its own.
The ways of a message that statements go through: no form; a value that is wrong; a payload.
Encode of a message that statements go through, on both sides, and Decode of what it gave.
The walk of the law MsgEncodes. -/
import Derived.Test.YtpiklkbjfpfejaaGreatDoorEd2
import Derived.Test.YtpiklkbjfpfejaaGreatDoorPutW
import Derived.Test.YtpiklkbjfpfejaaGreatDoorRe2
import Derived.Test.YtpiklkbjfpfejaaGreatDoorMdk
namespace Go.Proofs.YtpiklkbjfpfejaaGreatDoor
open Go.RowKit

theorem write_only {k : Int} {x : FieldR} (h : (writeP k x).2 = 0) : (x.kind.toNat : Int) = k ∧ onlyP k x = true := by
  unfold writeP at h
  split at h
  · cases h
  · rename_i hn
    rw [not_or] at hn
    exact ⟨by omega, by simpa using hn.2⟩
theorem textsP_ok : ∀ (l : List (List UInt8)) (r : List UInt8), (∀ y ∈ l, y.length < 4294967296) → textsP l.length ((l.map cnt).flatten ++ r) 0 = (l, r, 0)
  | [], r, _ => rfl
  | y :: l, r, h => by
    have hc := countedP_ok anyR y ((l.map cnt).flatten ++ r) (h y (List.mem_cons_self ..)) rfl
    have e : ((y :: l).map cnt).flatten ++ r = cnt y ++ ((l.map cnt).flatten ++ r) := by simp
    have ih := textsP_ok l r fun z hz => h z (List.mem_cons_of_mem _ hz)
    rw [e]
    show ((countedP anyR (cnt y ++ ((l.map cnt).flatten ++ r)) 0).1 :: (textsP l.length _ _).1, (textsP l.length (countedP anyR (cnt y ++ ((l.map cnt).flatten ++ r)) 0).2.1 (countedP anyR (cnt y ++ ((l.map cnt).flatten ++ r)) 0).2.2).2) = _
    rw [hc, ih]
theorem plain_whole (s : List UInt8) : plainL (wholeL s) = plainL s := by
  unfold wholeL
  split
  · rw [plainL_cons, if_pos rfl, plainL_idem]
  · exact plainL_idem s
theorem whole_whole (s : List UInt8) : wholeL (wholeL s) = wholeL s := by
  rw [← wholeL_plain (wholeL s), plain_whole, wholeL_plain]
theorem used_of : usesP 98 = 1 ∧ usesP 117 = 1 ∧ usesP 115 = 2 ∧ usesP 109 = 2 ∧ usesP 99 = 2 ∧ usesP 116 = 2 ∧ usesP 110 = 3 ∧ usesP 101 = 3 := by decide
theorem only_num {k : Int} {x : FieldR} (hu : usesP k = 1) (h : onlyP k x = true) : x.s = [] ∧ x.l = [] := by
  unfold onlyP at h
  rw [hu] at h
  simpa using h
theorem only_str {k : Int} {x : FieldR} (hu : usesP k = 2) (h : onlyP k x = true) : x.n = 0 ∧ x.l = [] := by
  unfold onlyP at h
  rw [hu] at h
  simpa using h
theorem only_list {k : Int} {x : FieldR} (hu : usesP k = 3) (h : onlyP k x = true) : x.n = 0 ∧ x.s = [] := by
  unfold onlyP at h
  rw [hu] at h
  simpa using h
theorem write_eq {k : Int} {x : FieldR} (h : (writeP k x).2 = 0) : writeP k x = if usesP k = 1 then wrNum k x.n else if usesP k = 2 then wrBytes k x.s else if usesP k = 3 then wrList k x.l else ([], 3) := by
  obtain ⟨h1, h2⟩ := write_only h
  unfold writeP
  rw [if_neg (by rw [h2]; simp; omega)]
/-- Texts of a length that the wire can tell. -/
structure FieldTold (x : FieldR) : Prop where
  s : x.s.length < 4000000000
  ls : ∀ y ∈ x.l, y.length < 4000000000
theorem write_read {k : UInt8} (hk : k ∈ letters8) {x : FieldR} (hx : FieldTold x) (h : (writeP (k.toNat : Int) x).2 = 0) (r : List UInt8) : readP k ((writeP (k.toNat : Int) x).1 ++ r) = (0, x, r) := by
  obtain ⟨hkd, ho⟩ := write_only h
  have hkd : x.kind = k := UInt8.toNat_inj.1 (by omega)
  have hw := write_eq h
  obtain ⟨kd, n, s, l⟩ := x
  simp only at hkd
  subst hkd
  obtain ⟨u98, u117, u115, u109, u99, u116, u110, u101⟩ := used_of
  simp only [letters8, List.mem_cons, List.not_mem_nil, or_false] at hk
  rcases hk with rfl | rfl | rfl | rfl | rfl | rfl | rfl | rfl
  · have hw : writeP ((98 : UInt8).toNat : Int) ⟨98, n, s, l⟩ = wrNum 98 n := hw
    obtain ⟨rfl, rfl⟩ : s = [] ∧ l = [] := only_num u98 ho
    rw [hw] at h ⊢
    have hn : n = 0 ∨ n = 1 := by
      unfold wrNum at h
      by_cases h0 : n = 0 ∨ n = 1
      · exact h0
      · rw [if_neg (by simp [h0]), if_neg (by omega)] at h; cases h
    rcases hn with rfl | rfl
    · have e := fixedP_ok boolR [0] r rfl
      show (orE (fixedP boolR 1 ([0] ++ r) 0).2.2 0, (⟨98, cond (decide ((hd0 (fixedP boolR 1 ([0] ++ r) 0).1).toNat = 1)) 1 0, [], []⟩ : FieldR), (fixedP boolR 1 ([0] ++ r) 0).2.1) = _
      have e' : fixedP boolR 1 ([0] ++ r) 0 = ([0], r, 0) := e
      rw [e']
      rfl
    · have e' : fixedP boolR 1 ([1] ++ r) 0 = ([1], r, 0) := fixedP_ok boolR [1] r rfl
      show (orE (fixedP boolR 1 ([1] ++ r) 0).2.2 0, (⟨98, cond (decide ((hd0 (fixedP boolR 1 ([1] ++ r) 0).1).toNat = 1)) 1 0, [], []⟩ : FieldR), (fixedP boolR 1 ([1] ++ r) 0).2.1) = _
      rw [e']
      rfl
  · have hw : writeP ((115 : UInt8).toNat : Int) ⟨115, n, s, l⟩ = (cnt s, 0) := hw
    obtain ⟨rfl, rfl⟩ : n = 0 ∧ l = [] := only_str u115 ho
    rw [hw]
    have e := countedP_ok anyR s r (by have := hx.s; simp only at this; omega) rfl
    show (orE (countedP anyR (cnt s ++ r) 0).2.2 0, (⟨115, 0, (countedP anyR (cnt s ++ r) 0).1, []⟩ : FieldR), (countedP anyR (cnt s ++ r) 0).2.1) = _
    rw [e]
    rfl
  · have hw : writeP ((117 : UInt8).toNat : Int) ⟨117, n, s, l⟩ = wrNum 117 n := hw
    obtain ⟨rfl, rfl⟩ : s = [] ∧ l = [] := only_num u117 ho
    rw [hw] at h ⊢
    have hn : 0 ≤ n ∧ n ≤ 4294967295 := by
      unfold wrNum at h
      by_cases h0 : 0 ≤ n ∧ n ≤ 4294967295
      · exact h0
      · rw [if_neg (by omega), if_neg (by omega)] at h; cases h
    have e2 : wrNum 117 n = (pack4 n.toNat, 0) := by unfold wrNum; rw [if_neg (by omega), if_pos ⟨rfl, hn⟩]
    rw [e2]
    have e := u32Q_ok n.toNat (by omega) r
    show (orE (u32Q (pack4 n.toNat ++ r) 0).2.2 0, (⟨117, ((u32Q (pack4 n.toNat ++ r) 0).1 : Int), [], []⟩ : FieldR), (u32Q (pack4 n.toNat ++ r) 0).2.1) = _
    rw [e]
    have e3 : (n.toNat : Int) = n := by omega
    show ((0 : Int), (⟨117, (n.toNat : Int), [], []⟩ : FieldR), r) = _
    rw [e3]
  · have hw : writeP ((109 : UInt8).toNat : Int) ⟨109, n, s, l⟩ = wrBytes 109 s := hw
    obtain ⟨rfl, rfl⟩ : n = 0 ∧ l = [] := only_str u109 ho
    rw [hw] at h ⊢
    have hz : startsZ s = false := by
      cases hz : startsZ s with
      | false => rfl
      | true =>
        unfold wrBytes at h
        rw [if_neg (by omega), if_neg (by rw [hz]; simp), if_neg (by omega)] at h
        cases h
    have e2 : wrBytes 109 s = (cnt (wholeL s), 0) := by unfold wrBytes; rw [if_neg (by omega), if_pos ⟨rfl, hz⟩]
    rw [e2]
    have hwl : (wholeL s).length ≤ s.length + 1 := by
      have := plainL_le s
      unfold wholeL
      split
      · rw [List.length_cons]; omega
      · omega
    have e := countedP_ok wholeR (wholeL s) r (by have := hx.s; simp only at this; omega) (by rw [wholeR_iff, whole_whole]; simp)
    show (orE (countedP wholeR (cnt (wholeL s) ++ r) 0).2.2 0, (⟨109, 0, plainL (countedP wholeR (cnt (wholeL s) ++ r) 0).1, []⟩ : FieldR), (countedP wholeR (cnt (wholeL s) ++ r) 0).2.1) = _
    rw [e]
    show ((0 : Int), (⟨109, 0, plainL (wholeL s), []⟩ : FieldR), r) = _
    rw [plain_whole, (plain_zero s).2 hz]
  · have hw : writeP ((110 : UInt8).toNat : Int) ⟨110, n, s, l⟩ = if checkP l = 0 then (cnt (joinL l), 0) else ([], checkP l) := hw
    obtain ⟨rfl, rfl⟩ : n = 0 ∧ s = [] := only_list u110 ho
    rw [hw] at h ⊢
    have hc : checkP l = 0 := by
      by_cases h0 : checkP l = 0
      · exact h0
      · rw [if_neg h0] at h; exact h
    rw [if_pos hc]
    have hjl : (joinL l).length ≤ 16 * 65 := by
      obtain ⟨c1, c2⟩ := check_all hc
      have := joinL_le 64 l fun y hy => by
        have hr := c2 y hy
        unfold rightL at hr
        simp only [Bool.and_eq_true, decide_eq_true_eq] at hr
        exact hr.1.2
      have := Nat.mul_le_mul_right 65 c1
      omega
    have e := countedP_ok anyR (joinL l) r (by omega) rfl
    show (orE (countedP anyR (cnt (joinL l) ++ r) 0).2.2 ((splitP (countedP anyR (cnt (joinL l) ++ r) 0).1).2 : Int), (⟨110, 0, [], (splitP (countedP anyR (cnt (joinL l) ++ r) 0).1).1⟩ : FieldR), (countedP anyR (cnt (joinL l) ++ r) 0).2.1) = _
    rw [e]
    show (orE 0 ((splitP (joinL l)).2 : Int), (⟨110, 0, [], (splitP (joinL l)).1⟩ : FieldR), r) = _
    rw [split_join hc]
    rfl
  · have hw : writeP ((99 : UInt8).toNat : Int) ⟨99, n, s, l⟩ = wrBytes 99 s := hw
    obtain ⟨rfl, rfl⟩ : n = 0 ∧ l = [] := only_str u99 ho
    rw [hw] at h ⊢
    have hl : s.length = 16 := by
      unfold wrBytes at h
      by_cases h0 : s.length = 16
      · exact h0
      · rw [if_neg (by omega), if_neg (by omega), if_neg (by omega)] at h; cases h
    have e2 : wrBytes 99 s = (s, 0) := by unfold wrBytes; rw [if_neg (by omega), if_neg (by omega), if_pos ⟨rfl, hl⟩]
    rw [e2]
    have e := fixedP_ok anyR s r rfl
    rw [hl] at e
    have e' : fixedP anyR 16 (s ++ r) 0 = (s, r, 0) := e
    show (orE (fixedP anyR 16 (s ++ r) 0).2.2 0, (⟨99, 0, (fixedP anyR 16 (s ++ r) 0).1, []⟩ : FieldR), (fixedP anyR 16 (s ++ r) 0).2.1) = _
    rw [e']
    rfl
  · have hw : writeP ((116 : UInt8).toNat : Int) ⟨116, n, s, l⟩ = (cnt s, 0) := hw
    obtain ⟨rfl, rfl⟩ : n = 0 ∧ l = [] := only_str u116 ho
    rw [hw]
    have e := countedP_ok anyR s r (by have := hx.s; simp only at this; omega) rfl
    show (orE (countedP anyR (cnt s ++ r) 0).2.2 0, (⟨116, 0, (countedP anyR (cnt s ++ r) 0).1, []⟩ : FieldR), (countedP anyR (cnt s ++ r) 0).2.1) = _
    rw [e]
    rfl
  · have hw : writeP ((101 : UInt8).toNat : Int) ⟨101, n, s, l⟩ = extsP l := hw
    obtain ⟨rfl, rfl⟩ : n = 0 ∧ s = [] := only_list u101 ho
    rw [hw] at h ⊢
    have hl : l.length % 2 = 0 ∧ l.length ≤ 16 := by
      unfold extsP at h
      by_cases h0 : l.length % 2 ≠ 0
      · rw [if_pos h0] at h; cases h
      · rw [if_neg h0] at h
        by_cases h1 : 16 < l.length
        · rw [if_pos h1] at h; cases h
        · omega
    have e2 : extsP l = (pack4 (l.length / 2) ++ (l.map cnt).flatten, 0) := by unfold extsP; rw [if_neg (by omega), if_neg (by omega)]
    rw [e2]
    show readP 101 (pack4 (l.length / 2) ++ (l.map cnt).flatten ++ r) = _
    rw [List.append_assoc]
    have e := u32Q_ok (l.length / 2) (by omega) ((l.map cnt).flatten ++ r)
    have e3 := textsP_ok l r fun y hy => by have := hx.ls y hy; omega
    have e4 : extsQ (pack4 (l.length / 2) ++ ((l.map cnt).flatten ++ r)) = (0, l, r, 0) := by
      unfold extsQ
      rw [e]
      show (if 8 < l.length / 2 then _ else ((0 : Int), textsP (2 * (l.length / 2)) ((l.map cnt).flatten ++ r) 0)) = _
      rw [if_neg (by omega), show 2 * (l.length / 2) = l.length by omega, e3]
    show (orE (extsQ (pack4 (l.length / 2) ++ ((l.map cnt).flatten ++ r))).2.2.2 (extsQ (pack4 (l.length / 2) ++ ((l.map cnt).flatten ++ r))).1, (⟨101, 0, [], (extsQ (pack4 (l.length / 2) ++ ((l.map cnt).flatten ++ r))).2.1⟩ : FieldR), (extsQ (pack4 (l.length / 2) ++ ((l.map cnt).flatten ++ r))).2.2.1) = _
    rw [e4]
    rfl
end Go.Proofs.YtpiklkbjfpfejaaGreatDoor

namespace Go.Proofs.YtpiklkbjfpfejaaGreatDoor
open Go.RowKit

def encL : List UInt8 → List FieldR → List UInt8
  | c :: Fl, x :: fs => (writeP (c.toNat : Int) x).1 ++ encL Fl fs
  | _, _ => []
theorem encK_all : ∀ (Fl : List UInt8) (fs : List FieldR), Fl.length = fs.length → encK Fl fs fs.length = encL Fl fs
  | [], [], _ => rfl
  | c :: Fl, x :: fs, h => by
    rw [List.length_cons, encK_cons, encK_all Fl fs (by simpa using h)]
    rfl
  | [], _ :: _, h => by simp at h
  | _ :: _, [], h => by simp at h
/-- Each value is one that its letter writes. -/
def AllOk : List UInt8 → List FieldR → Prop
  | c :: Fl, x :: fs => (c ∈ letters8 ∧ FieldTold x ∧ (writeP (c.toNat : Int) x).2 = 0) ∧ AllOk Fl fs
  | [], [] => True
  | _, _ => False
theorem allOk_of : ∀ (Fl : List UInt8) (fs : List FieldR), Fl.length = fs.length → (∀ c ∈ Fl, c ∈ letters8) → (∀ x ∈ fs, FieldTold x) → (∀ k, k < fs.length → (writeP ((Fl.getD k 0).toNat : Int) (fs.getD k zeroF)).2 = 0) → AllOk Fl fs
  | [], [], _, _, _, _ => trivial
  | c :: Fl, x :: fs, h, hl, ht, ho => ⟨⟨hl c (List.mem_cons_self ..), ht x (List.mem_cons_self ..), ho 0 (by simp)⟩, allOk_of Fl fs (by simpa using h) (fun c hc => hl c (List.mem_cons_of_mem _ hc)) (fun x hx => ht x (List.mem_cons_of_mem _ hx)) fun k hk => ho (k + 1) (by simpa using hk)⟩
  | [], _ :: _, h, _, _, _ => by simp at h
  | _ :: _, [], h, _, _, _ => by simp at h
theorem reads_enc : ∀ (Fl : List UInt8) (fs : List FieldR) (r : List UInt8), AllOk Fl fs → readsP Fl (encL Fl fs ++ r) = (Fl.length, 0, fs, r)
  | [], [], r, _ => rfl
  | c :: Fl, x :: fs, r, h => by
    have e := write_read h.1.1 h.1.2.1 h.1.2.2 (encL Fl fs ++ r)
    have ih := reads_enc Fl fs r h.2
    show readsP (c :: Fl) ((writeP (c.toNat : Int) x).1 ++ encL Fl fs ++ r) = _
    rw [List.append_assoc, readsP_ok (by rw [e]), e]
    show (_, _, _, _) = _
    rw [ih]
    rfl
  | [], _ :: _, _, h => h.elim
  | _ :: _, [], _, h => h.elim
theorem encL_app : ∀ (G H : List UInt8) (fs hs : List FieldR), G.length = fs.length → encL (G ++ H) (fs ++ hs) = encL G fs ++ encL H hs
  | [], H, [], hs, _ => rfl
  | c :: G, H, x :: fs, hs, h => by
    show (writeP (c.toNat : Int) x).1 ++ encL (G ++ H) (fs ++ hs) = (writeP (c.toNat : Int) x).1 ++ encL G fs ++ encL H hs
    rw [encL_app G H fs hs (by simpa using h), List.append_assoc]
  | [], _, _ :: _, _, h => by simp at h
  | _ :: _, _, [], _, h => by simp at h
theorem fits_enc {f : ByteArray} {fs : List FieldR} (h : AllOk (lettersOf f) fs) : fitsF f (encL (lettersOf f) fs) = true ∧ fieldsF f (encL (lettersOf f) fs) = fs := by
  have e := reads_enc (lettersOf f) fs [] h
  rw [List.append_nil] at e
  constructor
  · unfold fitsF
    rw [e]
    rfl
  · unfold fieldsF
    rw [e]
end Go.Proofs.YtpiklkbjfpfejaaGreatDoor

namespace Go.Proofs.YtpiklkbjfpfejaaGreatDoor
open Go.RowKit

theorem fits_part {f : ByteArray} (G : List UInt8) {fs : List FieldR} {r : List UInt8} (hf : lettersOf f = G) (h : AllOk G fs) (hr : r ≠ []) : fitsF f (encL G fs ++ r) = false := by
  have e := reads_enc G fs r h
  unfold fitsF
  rw [hf, e]
  unfold endP
  rw [if_neg (by simp), if_neg hr]
  rfl
theorem wrote_bool {x : FieldR} (h : (writeP 98 x).2 = 0) : (writeP 98 x).1 ≠ [] := by
  have hw : writeP 98 x = wrNum 98 x.n := by
    rw [write_eq h]
    rfl
  rw [hw] at h ⊢
  unfold wrNum at h ⊢
  by_cases h0 : x.n = 0 ∨ x.n = 1
  · rw [if_pos ⟨rfl, h0⟩]
    unfold boolL
    split <;> simp
  · rw [if_neg (by simp [h0]), if_neg (by omega)] at h
    cases h
theorem wrote_text {x : FieldR} (h : (writeP 116 x).2 = 0) : (writeP 116 x).1 ≠ [] := by
  have hw : writeP 116 x = (cnt x.s, 0) := by
    rw [write_eq h]
    rfl
  rw [hw]
  intro e
  have := congrArg List.length e
  rw [cnt_length] at this
  simp at this
theorem wrote_whole {x : FieldR} (hx : x.s.length ≤ 1000000) (h : (writeP 109 x).2 = 0) : ∃ y : FieldR, FieldTold y ∧ (writeP 116 y).2 = 0 ∧ (writeP 116 y).1 = (writeP 109 x).1 := by
  have hw : writeP 109 x = wrBytes 109 x.s := by
    rw [write_eq h]
    rfl
  have hz : startsZ x.s = false := by
    cases hz : startsZ x.s with
    | false => rfl
    | true =>
      rw [hw] at h
      unfold wrBytes at h
      rw [if_neg (by omega), if_neg (by rw [hz]; simp), if_neg (by omega)] at h
      cases h
  have e2 : wrBytes 109 x.s = (cnt (wholeL x.s), 0) := by unfold wrBytes; rw [if_neg (by omega), if_pos ⟨rfl, hz⟩]
  have hlen : (wholeL x.s).length ≤ 1000001 := by
    have := plainL_le x.s
    unfold wholeL
    split
    · rw [List.length_cons]; omega
    · omega
  refine ⟨⟨116, 0, wholeL x.s, []⟩, ⟨by simp only; omega, fun y hy => by cases hy⟩, rfl, ?_⟩
  rw [hw, e2]
  rfl
theorem allOk_cons {c : UInt8} {Fl : List UInt8} {fs : List FieldR} (h : AllOk (c :: Fl) fs) : ∃ x fs', fs = x :: fs' ∧ (c ∈ letters8 ∧ FieldTold x ∧ (writeP (c.toNat : Int) x).2 = 0) ∧ AllOk Fl fs' := by
  cases fs with
  | nil => exact h.elim
  | cons x fs' => exact ⟨x, fs', rfl, h.1, h.2⟩
theorem allOk_nil {fs : List FieldR} (h : AllOk [] fs) : fs = [] := by
  cases fs with
  | nil => rfl
  | cons x fs' => exact h.elim
theorem find_one {p : ByteArray → Bool} {A F : ByteArray} (hF : F ∈ [A]) (h : p F = true) : [A].find? p = some F := by
  simp only [List.mem_cons, List.not_mem_nil, or_false] at hF
  subst hF
  simp [h]
theorem ttt_no {fs : List FieldR} (h : AllOk [109, 109] fs) (hs : ∀ x ∈ fs, x.s.length ≤ 1000000) : fitsF ⟨#[116, 116, 116]⟩ (encL [109, 109] fs) = false := by
  obtain ⟨x, fs1, rfl, hx, h1⟩ := allOk_cons h
  obtain ⟨y, fs2, rfl, hy, h2⟩ := allOk_cons h1
  obtain rfl := allOk_nil h2
  obtain ⟨x', a1, a2, a3⟩ := wrote_whole (hs x (by simp)) hx.2.2
  obtain ⟨y', b1, b2, b3⟩ := wrote_whole (hs y (by simp)) hy.2.2
  have e : encL [109, 109] [x, y] = encL [116, 116] [x', y'] := by
    show (writeP 109 x).1 ++ ((writeP 109 y).1 ++ []) = (writeP 116 x').1 ++ ((writeP 116 y').1 ++ [])
    rw [a3, b3]
  have hk : AllOk [116, 116] [x', y'] := ⟨⟨by decide, a1, a2⟩, ⟨by decide, b1, b2⟩, trivial⟩
  have hr := reads_enc [116, 116] [x', y'] [] hk
  rw [List.append_nil, ← e] at hr
  have ha := readsP_app [116, 116] [116] (encL [109, 109] [x, y]) (by rw [hr])
  rw [hr] at ha
  unfold fitsF
  have hl : lettersOf ⟨#[116, 116, 116]⟩ = [116, 116] ++ [116] := rfl
  rw [hl, ha]
  rfl
set_option maxRecDepth 10000 in
theorem find_enc {n : Int} {F : ByteArray} (hF : F ∈ formsP n) {fs : List FieldR} (h : AllOk (lettersOf F) fs) (hs : ∀ x ∈ fs, x.s.length ≤ 1000000) :
    (formsP n).find? (fun f => fitsF f (encL (lettersOf F) fs)) = some F := by
  have hfit := (fits_enc h).1
  rcases formsP_mem n with e | ⟨r, hr, e⟩
  · rw [e] at hF; cases hF
  · rw [e] at hF ⊢
    clear e
    simp only [tableP, List.mem_cons, List.not_mem_nil, or_false] at hr
    rcases hr with rfl | rfl | rfl | rfl | rfl | rfl | rfl | rfl | rfl | rfl | rfl | rfl | rfl | rfl | rfl | rfl | rfl | rfl | rfl
    all_goals first
      | exact find_one hF hfit
      | skip
    · simp only [List.mem_cons, List.not_mem_nil, or_false] at hF
      rcases hF with rfl | rfl
      · rw [List.find?_cons, hfit]
      · rw [List.find?_cons, List.find?_cons, hfit]
        have := ttt_no h hs
        rw [show fitsF ⟨#[116, 116, 116]⟩ (encL (lettersOf ⟨#[109, 109]⟩) fs) = false from this]
    · simp only [List.mem_cons, List.not_mem_nil, or_false] at hF
      rcases hF with rfl | rfl | rfl
      · rw [List.find?_cons, hfit]
      · have h0 : AllOk [115, 115, 115, 98, 115, 116] fs := h
        obtain ⟨x1, t1, rfl, p1, h1⟩ := allOk_cons h0
        obtain ⟨x2, t2, rfl, p2, h2⟩ := allOk_cons h1
        obtain ⟨x3, t3, rfl, p3, h3⟩ := allOk_cons h2
        obtain ⟨x4, t4, rfl, p4, h4⟩ := allOk_cons h3
        have en := encL_app [115, 115, 115] [98, 115, 116] [x1, x2, x3] (x4 :: t4) rfl
        have hno := fits_part (f := ⟨#[115, 115, 115]⟩) [115, 115, 115] (fs := [x1, x2, x3]) (r := encL [98, 115, 116] (x4 :: t4)) rfl ⟨p1, p2, p3, trivial⟩ (by
          show (writeP 98 x4).1 ++ _ ≠ []
          intro hc
          exact wrote_bool p4.2.2 (List.append_eq_nil_iff.1 hc).1)
        rw [← en] at hno
        rw [List.find?_cons, List.find?_cons, hfit]
        rw [show fitsF ⟨#[115, 115, 115]⟩ (encL (lettersOf ⟨#[115, 115, 115, 98, 115, 116]⟩) (x1 :: x2 :: x3 :: x4 :: t4)) = false from hno]
      · have h0 : AllOk [115, 115, 115, 98, 115, 116, 116] fs := h
        obtain ⟨x1, t1, rfl, p1, h1⟩ := allOk_cons h0
        obtain ⟨x2, t2, rfl, p2, h2⟩ := allOk_cons h1
        obtain ⟨x3, t3, rfl, p3, h3⟩ := allOk_cons h2
        obtain ⟨x4, t4, rfl, p4, h4⟩ := allOk_cons h3
        obtain ⟨x5, t5, rfl, p5, h5⟩ := allOk_cons h4
        obtain ⟨x6, t6, rfl, p6, h6⟩ := allOk_cons h5
        obtain ⟨x7, t7, rfl, p7, h7⟩ := allOk_cons h6
        have en := encL_app [115, 115, 115] [98, 115, 116, 116] [x1, x2, x3] (x4 :: x5 :: x6 :: x7 :: t7) rfl
        have en2 := encL_app [115, 115, 115, 98, 115, 116] [116] [x1, x2, x3, x4, x5, x6] (x7 :: t7) rfl
        have hno := fits_part (f := ⟨#[115, 115, 115]⟩) [115, 115, 115] (fs := [x1, x2, x3]) (r := encL [98, 115, 116, 116] (x4 :: x5 :: x6 :: x7 :: t7)) rfl ⟨p1, p2, p3, trivial⟩ (by
          show (writeP 98 x4).1 ++ _ ≠ []
          intro hc
          exact wrote_bool p4.2.2 (List.append_eq_nil_iff.1 hc).1)
        have hno2 := fits_part (f := ⟨#[115, 115, 115, 98, 115, 116]⟩) [115, 115, 115, 98, 115, 116] (fs := [x1, x2, x3, x4, x5, x6]) (r := encL [116] (x7 :: t7)) rfl ⟨p1, p2, p3, p4, p5, p6, trivial⟩ (by
          show (writeP 116 x7).1 ++ _ ≠ []
          intro hc
          exact wrote_text p7.2.2 (List.append_eq_nil_iff.1 hc).1)
        rw [← en] at hno
        rw [← en2] at hno2
        rw [List.find?_cons, List.find?_cons, List.find?_cons, hfit]
        rw [show fitsF ⟨#[115, 115, 115]⟩ (encL (lettersOf ⟨#[115, 115, 115, 98, 115, 116, 116]⟩) (x1 :: x2 :: x3 :: x4 :: x5 :: x6 :: x7 :: t7)) = false from hno]
        rw [show fitsF ⟨#[115, 115, 115, 98, 115, 116]⟩ (encL (lettersOf ⟨#[115, 115, 115, 98, 115, 116, 116]⟩) (x1 :: x2 :: x3 :: x4 :: x5 :: x6 :: x7 :: t7)) = false from hno2]
end Go.Proofs.YtpiklkbjfpfejaaGreatDoor

namespace Go.Proofs.YtpiklkbjfpfejaaGreatDoor
open Go.RowKit

theorem fitP_mem {l : List ByteArray} {m : Int} (h : (fitP l m).2 = true) : ∃ F, fitP l m = (F, true) ∧ F ∈ l ∧ (F.size : Int) = m := by
  unfold fitP at h ⊢
  cases hf : l.find? (fun x => (x.size : Int) == m) with
  | none => rw [hf] at h; cases h
  | some F => exact ⟨F, rfl, List.mem_of_find?_eq_some hf, by simpa using List.find?_some hf⟩
theorem joined_le {l : List (List UInt8)} (hc : checkP l = 0) : (joinL l).length ≤ 16 * 65 := by
  obtain ⟨c1, c2⟩ := check_all hc
  have := joinL_le 64 l fun y hy => by
    have hr := c2 y hy
    unfold rightL at hr
    simp only [Bool.and_eq_true, decide_eq_true_eq] at hr
    exact hr.1.2
  have := Nat.mul_le_mul_right 65 c1
  omega
theorem num_le (k n : Int) : (wrNum k n).1.length ≤ 4 := by
  unfold wrNum
  split
  · unfold boolL; split <;> simp
  · split
    · exact Nat.le_refl 4
    · simp
theorem bytes_le (k : Int) {s : List UInt8} (hs : s.length ≤ 2000) : (wrBytes k s).1.length ≤ 2005 := by
  have hw : (wholeL s).length ≤ 2001 := by
    have := plainL_le s
    unfold wholeL
    split
    · rw [List.length_cons]; omega
    · omega
  unfold wrBytes
  split
  · show (cnt s).length ≤ _; rw [cnt_length]; omega
  · split
    · show (cnt (wholeL s)).length ≤ _; rw [cnt_length]; omega
    · split
      · show s.length ≤ _; omega
      · simp
theorem list_le {k : Int} (hk : k ≠ 101) (l : List (List UInt8)) : (wrList k l).1.length ≤ 2005 := by
  unfold wrList
  rw [if_neg hk]
  split
  · rename_i hc
    have := joined_le hc
    show (cnt (joinL l)).length ≤ _
    rw [cnt_length]; omega
  · simp
theorem cnts_le {l : List (List UInt8)} (h : ∀ y ∈ l, y.length ≤ 2000) : ((l.map cnt).flatten).length ≤ l.length * 2004 := by
  induction l with
  | nil => simp
  | cons y l ih =>
    have h1 := ih fun z hz => h z (List.mem_cons_of_mem _ hz)
    have h2 := h y (List.mem_cons_self ..)
    rw [List.map_cons, List.flatten_cons, List.length_append, cnt_length, List.length_cons]
    omega
theorem exts_le {l : List (List UInt8)} (h : ∀ y ∈ l, y.length ≤ 2000) : (extsP l).1.length ≤ 32068 := by
  unfold extsP
  split
  · simp
  · split
    · simp
    · have := cnts_le h
      show (pack4 (l.length / 2) ++ (l.map cnt).flatten).length ≤ _
      rw [List.length_append, pack4_length]
      omega
theorem write_le {k : Int} {x : FieldR} (h : FewF 2000 x) : (writeP k x).1.length ≤ 32068 ∧ (k ≠ 101 → (writeP k x).1.length ≤ 2005) := by
  have h1 := num_le k x.n
  have h2 := bytes_le k (s := x.s) (by have := h.s; omega)
  have h4 := exts_le (l := x.l) fun y hy => by have := h.ls y hy; omega
  have hl : (wrList k x.l).1.length ≤ 32068 ∧ (k ≠ 101 → (wrList k x.l).1.length ≤ 2005) := by
    by_cases hk : k = 101
    · refine ⟨?_, fun hn => absurd hk hn⟩
      unfold wrList
      rw [if_pos hk]
      exact h4
    · have := list_le hk x.l
      exact ⟨by omega, fun _ => this⟩
  unfold writeP
  split
  · simp
  · split
    · exact ⟨by omega, fun _ => by omega⟩
    · split
      · exact ⟨by omega, fun _ => by omega⟩
      · split
        · exact hl
        · simp
theorem ext_alone : ∀ r ∈ tableP, ∀ f ∈ r.2.2, 101 ∈ lettersOf f → lettersOf f = [101] := by decide
theorem encK_le {Fl : List UInt8} {fs : List FieldR} (hsz : Fl.length = fs.length) (hx : ∀ x ∈ fs, FewF 2000 x) (h : 101 ∉ Fl) : ∀ n, n ≤ fs.length → (encK Fl fs n).length ≤ n * 2005
  | 0, _ => by simp [encK]
  | n + 1, hn => by
    have ih := encK_le hsz hx h n (by omega)
    have hm : fs.getD n zeroF ∈ fs := by rw [List.getD_eq_getElem?_getD, List.getElem?_eq_getElem hn]; exact List.getElem_mem hn
    have hc : Fl.getD n 0 ∈ Fl := by rw [List.getD_eq_getElem?_getD, List.getElem?_eq_getElem (show n < Fl.length by omega)]; exact List.getElem_mem (show n < Fl.length by omega)
    have h1 := (write_le (k := ((Fl.getD n 0).toNat : Int)) (hx _ hm)).2 (fun e => h (by
      have : Fl.getD n 0 = 101 := UInt8.toNat_inj.1 (by show _ = 101; omega)
      rwa [this] at hc))
    show (encK Fl fs n ++ _).length ≤ _
    rw [List.length_append]
    omega
theorem enc_max {num : Int} {F : ByteArray} (hF : F ∈ formsP num) {fs : List FieldR} (hsz : (lettersOf F).length = fs.length) (hx : ∀ x ∈ fs, FewF 2000 x) : 1 + (encK (lettersOf F) fs fs.length).length ≤ 32768 := by
  have h13 := (forms_letters hF).1
  by_cases h : 101 ∈ lettersOf F
  · have h1 : lettersOf F = [101] := by
      rcases formsP_mem num with e | ⟨r, hr, e⟩
      · rw [e] at hF; cases hF
      · rw [e] at hF
        exact ext_alone r hr F hF h
    rw [h1] at hsz ⊢
    match fs, hsz with
    | [x], _ =>
      have := (write_le (k := 101) (hx x (by simp))).1
      show 1 + ([] ++ (writeP 101 x).1).length ≤ _
      rw [List.nil_append]
      omega
  · have := encK_le hsz hx h fs.length (Nat.le_refl _)
    omega
theorem first_bad (p : Nat → Prop) [DecidablePred p] : ∀ m : Nat, (∀ k, k < m → p k) ∨ ∃ j, j < m ∧ (∀ k, k < j → p k) ∧ ¬ p j
  | 0 => .inl fun k hk => absurd hk (Nat.not_lt_zero _)
  | m + 1 => by
    rcases first_bad p m with h | ⟨j, h1, h2, h3⟩
    · by_cases hm : p m
      · exact .inl fun k hk => by
          by_cases e : k = m
          · rw [e]; exact hm
          · exact h k (by omega)
      · exact .inr ⟨m, by omega, h, hm⟩
    · exact .inr ⟨j, by omega, h2, h3⟩
theorem forms_range {num : Int} (h : formsP num ≠ []) : 0 ≤ num ∧ num ≤ 255 := by
  unfold formsP rowP at h
  cases hf : tableP.find? (fun r => num == r.1) with
  | none => rw [hf] at h; exact absurd rfl h
  | some r =>
    have h1 := List.mem_of_find?_eq_some hf
    have h2 : num = r.1 := by simpa using List.find?_some hf
    have : ∀ r ∈ tableP, 0 ≤ r.1 ∧ r.1 ≤ 255 := by decide
    rw [h2]
    exact this r h1
end Go.Proofs.YtpiklkbjfpfejaaGreatDoor

namespace Go.Proofs.YtpiklkbjfpfejaaGreatDoor
open Go.RowKit

theorem few_ok {x : FieldR} (hi : FieldIn x) (h : FewF 2000 x) : FieldOk x :=
  ⟨hi.n, by have := h.s; omega, by have := h.l; omega, fun y hy => by have := h.ls y hy; omega⟩
theorem few_told {x : FieldR} (h : FewF 2000 x) : FieldTold x := ⟨by have := h.s; omega, fun y hy => by have := h.ls y hy; omega⟩
theorem letter_of {c : UInt8} (h : c ∈ letters8) : isLetter c = true := by
  simp only [letters8, List.mem_cons, List.not_mem_nil, or_false] at h
  rcases h with rfl | rfl | rfl | rfl | rfl | rfl | rfl | rfl <;> rfl
theorem wordP_le (num : Int) : (wordP num).size ≤ 100 := by
  unfold wordP
  cases hr : rowP num with
  | none => exact Nat.zero_le _
  | some r =>
    have hm := List.mem_of_find?_eq_some hr
    have : ∀ r ∈ tableP, r.2.1.size ≤ 100 := by decide
    exact this r hm
theorem placeB_le {j : Nat} (hj : j < 20) : (placeB j).size ≤ 100 := by
  have h := place_of j hj
  have h2 : (placeB j ++ blankS).size ≤ 100 := by
    rw [h]
    split <;> (show _ ≤ _; simp [ByteArray.size])
  rw [ByteArray.size_append] at h2
  omega
def EncFail (w : World) (m : Value) : Prop := ∃ (path : List ByteArray) (code : Int), code ≠ 0 ∧ path.length ≤ 20 ∧ (∀ x ∈ path, x.size ≤ 1000) ∧
  (∀ W, Below w.heap.size w W → Calls Tryz.prog 8 #[m] W fun e w' => ∃ t u, e = .returned (.tuple #[.string ⟨#[]⟩, .iface t u]) ∧ ErrAt w' (.iface t u) path (some code) ∧ Below W.heap.size W w') ∧
  (∀ W, Below w.heap.size w W → Calls Tryz.prog 9 #[m] W fun e w' => e = .returned (.tuple #[.string ⟨#[]⟩, .agg #[.int .i64 code, .string (atP path)]]) ∧ Below W.heap.size W w')
def EncRight (w : World) (num : Int) (m : Value) (fs : List FieldR) : Prop := ∃ P : ByteArray,
  (∀ W, Below w.heap.size w W → Calls Tryz.prog 8 #[m] W fun e w' => e = .returned (.tuple #[.string P, .nilIface]) ∧ Below W.heap.size W w') ∧
  (∀ W, Below w.heap.size w W → Calls Tryz.prog 9 #[m] W fun e w' => e = .returned (.tuple #[.string P, .agg #[.int .i64 0, .string ⟨#[]⟩]]) ∧ Below W.heap.size W w') ∧
  (∀ W, TabAt W → VarAt W → Calls Tryz.prog 11 #[.string P] W fun e w' => ∃ ao, ∃ L cap : Nat, e = .returned (.tuple #[.agg #[.int .i64 num, .slice ao L cap], .nilIface]) ∧ FieldsAt w' (.slice ao L cap) fs ∧ Below W.heap.size W w')
theorem enc_ways {w : World} {v : Value} {fs : List FieldR} (hv : FieldsAt w v fs) (hT : TabAt w) (num : Int) (hx : ∀ x ∈ fs, FewF 2000 x) : EncFail w (msgV num v) ∨ EncRight w num (msgV num v) fs := by
  have hin : ∀ x ∈ fs, FieldIn x := by obtain ⟨_, _, _, _, _, h, _⟩ := hv; exact h
  have hfo : ∀ x ∈ fs, FieldOk x := fun x h => few_ok (hin x h) (hx x h)
  cases hfit : (fitP (formsP num) fs.length).2 with
  | false =>
    refine .inl ⟨[messageS], 6, by decide, by simp, fun x h => ?_, fun W hb => encode_none (hv.below hb) num hfit, fun W hb => ?_⟩
    · simp only [List.mem_cons, List.not_mem_nil, or_false] at h
      rw [h]
      decide
    · have h := rencode_none (w := W) (hv.below hb) num hfit
      rw [messageB_at]
      exact h
  | true =>
    obtain ⟨F, e1, hF, e2⟩ := fitP_mem hfit
    have hl := forms_letters hF
    have hbl := bs_letters F
    have hsz : (lettersOf F).length = fs.length := by
      have := bs_size (lettersOf F)
      rw [hbl] at this
      omega
    have hfit2 : fitP (formsP num) fs.length = (bs (lettersOf F), true) := by rw [hbl]; exact e1
    have hmax := enc_max hF hsz hx
    have hlet : ∀ c ∈ lettersOf F, isLetter c = true := fun c hc => letter_of (hl.2 c hc)
    have hasc : ∀ c ∈ lettersOf F, c.toNat < 128 := fun c hc => letters_ascii (hl.2 c hc)
    have h20 : fs.length < 20 := by omega
    have HR := fun (W : World) (hb : Below w.heap.size w W) => rencode_any (w := W) (hv.below hb) num (lettersOf F) hfit2 hsz h20 hlet hfo hmax
    rcases first_bad (fun k => (writeP (((lettersOf F).getD k 0).toNat : Int) (fs.getD k zeroF)).2 = 0) fs.length with hok | ⟨j, hj, hok, hbad⟩
    · right
      refine ⟨bs (nextB num :: encK (lettersOf F) fs fs.length), fun W hb => encode_ok (hv.below hb) (hT.below hb) num (lettersOf F) hfit2 hsz hasc hfo hok hmax, fun W hb => (HR W hb).mono fun e w' ⟨hb', hc⟩ => ?_, fun W hTW hVW => ?_⟩
      · rcases hc with ⟨j, h1, _, h3, _⟩ | ⟨_, h2⟩
        · exact absurd (hok j h1) h3
        · exact ⟨h2, hb'⟩
      · have hne : formsP num ≠ [] := by intro h; rw [h] at hF; cases hF
        have hrg := forms_range hne
        have hnb : ((nextB num).toNat : Int) = num := by unfold nextB; rw [UInt8.toNat_ofNat']; omega
        have hall := allOk_of (lettersOf F) fs hsz hl.2 (fun x h => few_told (hx x h)) hok
        have hen := encK_all (lettersOf F) fs hsz
        have hfd := find_enc hF hall fun x h => by have := (hx x h).s; omega
        have hff := (fits_enc hall).2
        rw [← hen] at hfd hff
        have hlen : (encK (lettersOf F) fs fs.length).length ≤ 32767 := by omega
        have hd := decode_some (w := W) (b := nextB num) hlen (by rw [hnb]; exact hne) hTW hVW
        rw [hnb] at hd
        refine hd.mono fun e w' ⟨hb', hc⟩ => ?_
        rcases hc with ⟨f, v', h1, h2, h3⟩ | ⟨h1, _⟩
        · rw [hfd] at h1
          cases h1
          rw [hff] at h3
          have h4 := h3
          obtain ⟨ao, cap, rfl, _⟩ := h4
          exact ⟨ao, _, cap, h2, h3, hb'⟩
        · rw [hfd] at h1; cases h1
    · left
      refine ⟨[wordP num, placeB j], ((writeP (((lettersOf F).getD j 0).toNat : Int) (fs.getD j zeroF)).2 : Int), by omega, by simp, fun x h => ?_, fun W hb => encode_wrong (hv.below hb) (hT.below hb) num (lettersOf F) hfit2 hsz hasc hfo j hj (by omega) hok ?_ _ hbad rfl, fun W hb => (HR W hb).mono fun e w' ⟨hb', hc⟩ => ?_⟩
      · simp only [List.mem_cons, List.not_mem_nil, or_false] at h
        rcases h with rfl | rfl
        · have := wordP_le num; omega
        · have := placeB_le (show j < 20 by omega); omega
      · have := encK_mono (lettersOf F) fs (Nat.le_of_lt hj)
        omega
      · rcases hc with ⟨j', h1, h2, h3, h4⟩ | ⟨h1, _⟩
        · have hjj : j' = j := by
            rcases Nat.lt_trichotomy j' j with h | h | h
            · exact absurd (hok j' h) h3
            · exact h
            · exact absurd (h2 j h) hbad
          subst hjj
          exact ⟨by rw [atP_two]; exact h4, hb'⟩
        · exact absurd (h1 j hj) hbad
end Go.Proofs.YtpiklkbjfpfejaaGreatDoor

namespace Go.Proofs.YtpiklkbjfpfejaaGreatDoor
open Go.RowKit
set_option maxHeartbeats 2000000 in
set_option maxRecDepth 100000 in
theorem msgEncodes_any {w : World} {v : Value} {fs : List FieldR} (hv : FieldsAt w v fs) (num : Int) (hT : TabAt w) (hV : VarAt w) (hg : TypeOfError w) :
    Calls Tryz.prog 3 #[msgV num v] w fun e w' => e = .returned (.bool true) ∧ Below w.heap.size w w' := by
  have HAw := Lib.hid (fun (W : World) (hb : Below w.heap.size w W) => awake7_any (hT.below hb))
  have HFew := Lib.hid (fun (W : World) (hb : Below w.heap.size w W) => few7_any (hv.below hb) num 2000)
  have HWays : Hid ((∀ x ∈ fs, FewF 2000 x) → EncFail w (msgV num v) ∨ EncRight w num (msgV num v) fs) := enc_ways hv hT num
  have HSm : Hid (∀ (W : World) (hb : Below w.heap.size w W) (h20 : fs.length ≤ 20) (ao : Option Addr) (L cap : Nat), FieldsAt W (.slice ao L cap) fs → Calls Tryz.prog 12 #[.agg #[.int .i64 num, .slice ao L cap], msgV num v] W fun e w' => e = .returned (.bool true) ∧ Below W.heap.size W w') := fun W hb h20 ao L cap h => same7_any h (hv.below hb) (by omega) _
  have HWr : Hid (∀ (W : World) (hb : Below w.heap.size w W) (path : List ByteArray) (code : Int) (t : TypeId) (u : Value), path.length ≤ 20 → (∀ x ∈ path, x.size ≤ 1000) → ErrAt W (.iface t u) path (some code) → Calls Tryz.prog 10 #[.iface t u, .agg #[.int .i64 code, .string (atP path)]] W fun r w' => r = .returned (.bool true) ∧ Below W.heap.size W w') := fun W hb path code t u h1 h2 he => @wrong_any W t u path (some code) (hg.later hb) he h1 h2
  have HTb : Hid (∀ W, Below w.heap.size w W → TabAt W ∧ VarAt W) := fun W hb => ⟨hT.below hb, hV.below hb hV.pos⟩
  obtain ⟨ao, cap, rfl, hcap, hlen, _⟩ := hv
  unfold msgV at *
  have hBA : Below w.heap.size w (w.alloc (.cells #[.int .i64 num, .slice ao fs.length cap] 24)) := (Below.refl w.heap.size w).alloc (Nat.le_refl _) _
  have HBA := Lib.hid hBA
  have HH := Lib.hid (Holds.new w 24 #[.int .i64 num, .slice ao fs.length cap])
  clear hBA hT hV hg
  obtain ⟨m, hm⟩ : ∃ m, m = fs.length := ⟨_, rfl⟩
  have HMe := Lib.hid hm
  rw [← hm] at HFew HWays HSm HBA HH hcap hlen ⊢
  clear hm
  go_enter Tryz.func3, Tryz.ntmps3
  have c0 := HH.out.cell 0
  have c1 := HH.out.cell 1
  go_wp2_with fail
  go_at_call 6
  refine (HFew.out _ HBA.out).mono ?_
  intro e w1 hpost
  obtain ⟨b, rfl, hb, b1⟩ := hpost
  have hB1 := HBA.out.trans (b1.mono HBA.out.size)
  have hH1 := HH.out.moves (Moves.ofBelow (S := nobody) b1) (fun h => h)
  have d0 := hH1.cell 0
  have d1 := hH1.cell 1
  cases b with
  | false =>
    clear hb
    go_wp2_with (first
      | (go_at_call 7; with_reducible refine (HAw.out _ hB1).mono ?_; rintro e w2 ⟨rfl, b2⟩)
      | fail)
    go_ret
    exact ⟨rfl, hB1.trans (b2.mono hB1.size)⟩
  | true =>
    obtain ⟨h20, hx⟩ := hb rfl
    have H20 := Lib.hid (Nat.le_trans (Nat.le_of_eq HMe.out) h20)
    have hways := HWays.out hx
    clear hb hx h20 HWays HFew b1
    rcases hways with ⟨path, code, hc0, hl, hs, hE, hR⟩ | ⟨P, hE, hR, hD⟩
    · have HE := Lib.hid hE
      have HR := Lib.hid hR
      have HWq := Lib.hid (fun W hb t u => HWr.out W hb path code t u hl hs)
      have q1 : (code != 0) = true := by rw [bne_iff_ne]; exact hc0
      have hq : ((⟨#[]⟩ : ByteArray).toList == (⟨#[]⟩ : ByteArray).toList) = true := by simp
      clear hE hR hl hs hc0 HWr HSm
      generalize atP path = AP at *
      go_wp2_with (first
        | (go_at_call 8; with_reducible refine (HE.out _ hB1).mono ?_; rintro e w2 ⟨t, u, rfl, he2, b2⟩
           have hB2 := hB1.trans (b2.mono hB1.size)
           have hH2 := hH1.moves (Moves.ofBelow (S := nobody) b2) (fun h => h)
           have f0 := hH2.cell 0; have f1 := hH2.cell 1)
        | (go_at_call 9; with_reducible refine (HR.out _ hB2).mono ?_; rintro e w3 ⟨rfl, b3⟩
           have hY := Holds.new w3 33 #[.int .i64 code, .string AP]
           have y0 := hY.cell 0; have y1 := hY.cell 1; have r0 := hY.frozen 0; have r1 := hY.frozen 1)
        | fail)
      have b4 : Below w3.heap.size w3 (w3.alloc (.cells #[.int .i64 code, .string AP] 33)) := (Below.refl _ _).alloc (Nat.le_refl _) _
      have hB4 := (hB2.trans (b3.mono hB2.size)).trans (b4.mono (Nat.le_trans hB2.size b3.size))
      have he4 := (he2.later b3).later b4
      clear y0 y1 r0 r1 f0 f1 d0 d1 c0 c1 b4 b3 b2 hH1 hH2 hB1 hB2 he2 HE HR HBA HH
      generalize w3.alloc (.cells #[.int .i64 code, .string AP] 33) = W4 at *
      generalize w3.heap.size = B at *
      refine (HAw.out _ hB4).mono ?_
      rintro r w5 ⟨rfl, b5⟩
      have hB5 := hB4.trans (b5.mono hB4.size)
      have he5 := he4.later b5
      have hY5 := hY.moves (Moves.ofBelow (S := nobody) b5) (fun h => h)
      have y0 := hY5.cell 0; have y1 := hY5.cell 1; have r0 := hY5.frozen 0; have r1 := hY5.frozen 1
      clear hY hB4 he4 b5
      go_wp2_with (first
        | (go_at_call 10; with_reducible refine (HWq.out _ hB5 _ _ he5).mono ?_; rintro r w6 ⟨rfl, b6⟩
           have hB6 := hB5.trans (b6.mono hB5.size))
        | fail)
      go_ret
      exact ⟨rfl, hB6⟩
    · have HE := Lib.hid hE
      have HR := Lib.hid hR
      have HD := Lib.hid hD
      have hq : (P.toList == P.toList) = true := by simp
      clear hE hR hD HWr
      go_wp2_with (first
        | (go_at_call 8; with_reducible refine (HE.out _ hB1).mono ?_; rintro e w2 ⟨rfl, b2⟩
           have hB2 := hB1.trans (b2.mono hB1.size)
           have hH2 := hH1.moves (Moves.ofBelow (S := nobody) b2) (fun h => h)
           have f0 := hH2.cell 0; have f1 := hH2.cell 1)
        | (go_at_call 9; with_reducible refine (HR.out _ hB2).mono ?_; rintro e w3 ⟨rfl, b3⟩
           have hB3 := hB2.trans (b3.mono hB2.size)
           have hH3 := hH2.moves (Moves.ofBelow (S := nobody) b3) (fun h => h)
           have hY := Holds.new w3 33 #[.int .i64 0, .string ⟨#[]⟩]
           have b4 : Below w3.heap.size w3 (w3.alloc (.cells #[.int .i64 0, .string ⟨#[]⟩] 33)) := (Below.refl _ _).alloc (Nat.le_refl _) _
           have hB4 := hB3.trans (b4.mono hB3.size)
           have hH4 := hH3.moves (Moves.ofBelow (S := nobody) b4) (fun h => h)
           have htv := HTb.out _ hB4
           have y0 := hY.cell 0; have y1 := hY.cell 1; have r0 := hY.frozen 0; have r1 := hY.frozen 1)
        | fail)
      clear y0 y1 r0 r1 f0 f1 d0 d1 c0 c1 b4 b3 b2 hH1 hH2 hH3 hB1 hB2 hB3 hY HE HR HBA HH
      generalize w3.alloc (.cells #[.int .i64 0, .string ⟨#[]⟩] 33) = W4 at *
      generalize w3.heap.size = B at *
      refine (HD.out _ htv.1 htv.2).mono ?_
      rintro r w5 ⟨ao2, L, cap2, rfl, hfs, b5⟩
      have hB5 := hB4.trans (b5.mono hB4.size)
      have hM5 := Holds.new w5 24 #[.int .i64 num, .slice ao2 L cap2]
      have b6 : Below w5.heap.size w5 (w5.alloc (.cells #[.int .i64 num, .slice ao2 L cap2] 24)) := (Below.refl _ _).alloc (Nat.le_refl _) _
      have hB6 := hB5.trans (b6.mono hB5.size)
      have hH6 := (hH4.moves (Moves.ofBelow (S := nobody) b5) (fun h => h)).moves (Moves.ofBelow (S := nobody) b6) (fun h => h)
      have hfs6 := hfs.below b6
      clear b6 b5 hB5 hB4 hH4 hfs htv HD
      go_wp2_with (first
        | (go_at_call 7; with_reducible refine (HAw.out _ hB6).mono ?_; rintro r w7 ⟨rfl, b7⟩
           have hB7 := hB6.trans (b7.mono hB6.size)
           have hfs7 := hfs6.below b7
           have hH7 := hH6.moves (Moves.ofBelow (S := nobody) b7) (fun h => h)
           have hM7 := hM5.moves (Moves.ofBelow (S := nobody) b7) (fun h => h)
           have z0 := hM7.cell 0; have z1 := hM7.cell 1; have s0 := hM7.frozen 0; have s1 := hM7.frozen 1
           have x0 := hH7.cell 0; have x1 := hH7.cell 1; have t0 := hH7.frozen 0; have t1 := hH7.frozen 1)
        | (go_at_call 12; with_reducible refine (HSm.out _ hB7 H20.out _ _ _ hfs7).mono ?_; rintro r w8 ⟨rfl, b8⟩
           have hB8 := hB7.trans (b8.mono hB7.size))
        | fail)
      go_ret
      exact ⟨rfl, hB8⟩
end Go.Proofs.YtpiklkbjfpfejaaGreatDoor
