/- Part 36 of what the statement wants. -/
import Derived.Test.YtkmhdepohcncaaaGreatDoorPk30
import Derived.Test.YtkmhdepohcncaaaGreatDoorPk33
import Derived.Test.YtkmhdepohcncaaaGreatDoorPk34
import Derived.Test.YtkmhdepohcncaaaGreatDoorPk35
namespace Go.Proofs.YtkmhdepohcncaaaGreatDoor
open Go.RowKit

def blankS : ByteArray := ⟨#[32]⟩
theorem place_of : ∀ i, i < 20 → placeB i ++ blankS = if i < 10 then ⟨#[UInt8.ofNat (48 + i), 32]⟩ else ⟨#[49, UInt8.ofNat (48 + (i - 10)), 32]⟩ := by
  intro i hi
  unfold placeB blankS
  rcases i with _ | _ | _ | _ | _ | _ | _ | _ | _ | _ | _ | _ | _ | _ | _ | _ | _ | _ | _ | _ | i
  all_goals first
    | omega
    | (rw [Lib.decDigits]; rfl)
    | (rw [Lib.decDigits, Lib.decDigits]; rfl)
set_option maxRecDepth 100000 in
theorem place_any (i : Nat) (hi : i < 20) (w : World) : Calls Tryz.prog 126 #[.int .i64 i] w fun e w' => e = .returned (.string (placeB i ++ blankS)) ∧ Below w.heap.size w w' := by
  rw [place_of i hi]
  rcases i with _ | _ | _ | _ | _ | _ | _ | _ | _ | _ | _ | _ | _ | _ | _ | _ | _ | _ | _ | _ | i
  all_goals first
    | omega
    | (go_enter Tryz.func126, Tryz.ntmps126
       go_wp2
       (try (go_region; go_wp2))
       go_ret
       first | exact ⟨rfl, Below.refl _ _⟩ | exact ⟨rfl, (Below.refl _ _).drew⟩)

theorem rdResults2 {P : Program} {fn : Func} {p u : Tmp} {ty : TypeId} (h : fn.results = #[.tmp u, .cell p ty]) (tmps : Array Value) (w : World) (g : Nat) (t : TypeId) (cs : Array Value) (fr : Nat × Nat) (d : TypeDesc)
    (hp : tmps.getD p undef = .pointer (some ⟨g, 0, none⟩)) (hg : w.heap[g]? = some (.cells cs t fr))
    (hu : P.underlying ty = some d) (hd : (match d with | .struct _ | .array _ _ => true | _ => false) = true) (hi : (P.info? ty).map (·.size) = some cs.size) :
    (results fn tmps).run P w = .ok (.tuple #[tmps.getD u undef, .agg cs]) w := by
  have hp' : tmps[p]?.getD undef = .pointer (some ⟨g, 0, none⟩) := by simpa using hp
  simp [results, h, hp', asAddr, run_loadVar_row w g t ty cs fr d hg hu hd hi]

structure ReadInv (w wr : World) (F s : List UInt8) (j : Nat) (l : List (FieldR × Value)) (r : List UInt8) (v : Value) : Prop where
  rd : RdTo F s j (l.map (·.1)) r
  len : l.length = j
  rl : r.length ≤ s.length
  own : wr.ownsRow (w.heap.size + 2) 68 4 v l.length (cells7 l)
  lists : ListsAt wr l
  far : ∀ p ∈ l, p.1.l ≠ [] → ∀ b, p.2.ownBlock = some b → w.heap.size + 1 < b ∧ v.ownBlock ≠ some b
  at_ : QAt wr (w.heap.size + 1) r 0
  err : Holds wr w.heap.size 78 #[.int .i64 0, .string ⟨#[]⟩]
  bel : Below w.heap.size w wr
theorem ReadInv.step {w wr Wb We : World} {j : Nat} {F s : List UInt8} {l : List (FieldR × Value)} {r r' : List UInt8} {v v' : Value} {x : FieldR} {ao : Option Addr} {cap : Nat} (h : ReadInv w wr F s j l r v) (hj : j < F.length) (hs : s.length ≤ 40000)
    (mb : Moves (fun i => i = w.heap.size + 1) wr Wb) (h0 : (readP F[j] r).1 = 0) (hx : (readP F[j] r).2.1 = x) (hr' : (readP F[j] r).2.2 = r') (hcap : x.l.length ≤ cap) (hu : TextsAt Wb (.slice ao x.l.length cap) (x.l.map bs)) (hnew : ∀ g, (Value.slice ao x.l.length cap).ownBlock = some g → wr.heap.size ≤ g)
    (hR : QAt Wb (w.heap.size + 1) r' 0) (hown : We.ownsRow (w.heap.size + 2) 68 4 v' (l ++ [(x, Value.slice ao x.l.length cap)]).length (cells7 (l ++ [(x, Value.slice ao x.l.length cap)]))) (me : Moves (fun i => v.ownBlock = some i) Wb We)
    (hv' : v'.ownBlock = v.ownBlock ∨ ∃ g, v'.ownBlock = some g ∧ Wb.heap.size ≤ g) :
    ReadInv w We F s (j + 1) (l ++ [(x, Value.slice ao x.l.length cap)]) r' v' := by
  have hvg : ∀ g, v.ownBlock = some g → w.heap.size + 2 ≤ g ∧ g < wr.heap.size := fun g hg => h.own.lt g hg
  have hsm : FieldSm 40000 x := by
    have := readP_in F[j] r
    rw [hx] at this
    exact this.mono (by have := h.rl; omega)
  have hrl : r'.length ≤ r.length := by rw [← hr']; exact readP_rest _ _
  have m2 : Moves (fun i => i = w.heap.size + 1 ∨ v.ownBlock = some i) wr We := (mb.mono fun i hi _ => .inl hi).trans me fun i hi => .inl (.inr hi)
  have hQl : w.heap.size + 1 < wr.heap.size := Holds.lt h.at_
  have hlist : ∀ p ∈ l, p.1.l ≠ [] → ∀ b, p.2.ownBlock = some b → b < wr.heap.size := fun p hp hne b hb => by
    obtain ⟨⟨ao', cap', e1, _, e3⟩, _⟩ := h.lists p hp
    exact e3.block (by simpa using hne) (by rw [← e1]; exact hb)
  refine ⟨?_, by rw [List.length_append, h.len]; rfl, Nat.le_trans hrl h.rl, hown, ?_, ?_, Holds.moves hR me (fun e => by have := (hvg _ e).1; omega), Holds.moves h.err m2 (by rintro (e | e); omega; have := (hvg _ e).1; omega), h.bel.trans (m2.below h.bel.size fun i hi => ?_)⟩
  · have := h.rd.next hj h0
    rw [hx, hr'] at this
    rw [List.map_append]
    exact this
  · intro p hp
    rcases List.mem_append.1 hp with hp | hp
    · obtain ⟨⟨ao', cap', e1, e2, e3⟩, e4⟩ := h.lists p hp
      refine ⟨⟨ao', cap', e1, e2, e3.moves2 m2 fun hne g hg => ?_⟩, e4⟩
      have := h.far p hp (by simpa using hne) g (by rw [e1]; exact hg)
      rintro (rfl | hi)
      · omega
      · exact this.2 hi
    · simp only [List.mem_singleton] at hp
      subst hp
      refine ⟨⟨ao, cap, rfl, hcap, hu.moves2 me fun _ g hg hi => ?_⟩, hsm.in (by omega)⟩
      have := hnew g hg
      have := (hvg g hi).2
      omega
  · intro p hp hne b hb
    rcases List.mem_append.1 hp with hp | hp
    · have h1 := h.far p hp hne b hb
      have h2 := hlist p hp hne b hb
      refine ⟨h1.1, fun e => ?_⟩
      rcases hv' with e' | ⟨g, e', hg⟩
      · exact h1.2 (e' ▸ e)
      · rw [e'] at e
        injection e with e
        have := mb.size
        omega
    · simp only [List.mem_singleton] at hp
      subst hp
      have h1 := hnew b hb
      have h2 := hu.block (by simpa using hne) hb
      refine ⟨by omega, fun e => ?_⟩
      rcases hv' with e' | ⟨g, e', hg⟩
      · have := (hvg b (e' ▸ e)).2
        omega
      · rw [e'] at e
        injection e with e
        omega
  · rcases hi with rfl | hi
    · omega
    · have := (hvg i hi).1; omega
end Go.Proofs.YtkmhdepohcncaaaGreatDoor

namespace Go.Proofs.YtkmhdepohcncaaaGreatDoor
open Go.RowKit

def endBlank : ByteArray := ⟨#[101, 110, 100, 32]⟩
def ReadQPost (F s : List UInt8) (w : World) (e : Ending) (w' : World) : Prop :=
  Below w.heap.size w w' ∧
  (((readsP F s).2.1 ≠ 0 ∧ e = .returned (.tuple #[.slice none 0 0, .agg #[.int .i64 (readsP F s).2.1, .string (placeB (readsP F s).1 ++ blankS)]])) ∨
   ((readsP F s).2.1 = 0 ∧ endP (readsP F s).2.2.2 0 ≠ 0 ∧ e = .returned (.tuple #[.slice none 0 0, .agg #[.int .i64 3, .string endBlank]])) ∨
   ((readsP F s).2.1 = 0 ∧ endP (readsP F s).2.2.2 0 = 0 ∧ ∃ ao n cap, e = .returned (.tuple #[.slice ao n cap, .agg #[.int .i64 0, .string ⟨#[]⟩]]) ∧ FieldsKept w' (.slice ao n cap) (readsP F s).2.2.1 w.heap.size))

set_option maxHeartbeats 4000000 in
set_option maxRecDepth 100000 in
theorem rread_any {w : World} (b : UInt8) (F s : List UInt8) (hs : s.length ≤ 10000) (hF : F.length ≤ 19) (hl8 : ∀ k ∈ F, k ∈ letters8) :
    Calls Tryz.prog 65 #[.string (bs (b :: s)), .string (bs F)] w (ReadQPost F s w) := by
  have zF := bs_size F
  have hsz : (bs (b :: s)).size = s.length + 1 := by rw [bs_size]; rfl
  have hdr : (bs (b :: s)).extract 1 (s.length + 1) = bs s := by have := bs_drop (b :: s) 1; rw [hsz] at this; exact this
  have HIx : Hid (∀ (k : Nat) (hk : k < F.length) W, (Instr.index 9 (.string (bs F)) (.int .i64 (k : Int))).run Tryz.prog W = .ok (.int .u8 ((F[k]'hk).toNat : Int)) W) := fun k hk W => index_bs F k hk W
  have HPl : Hid (∀ (i : Nat) (_ : i < 20) W, Calls Tryz.prog 126 #[.int .i64 i] W fun e w' => e = .returned (.string (placeB i ++ blankS)) ∧ Below W.heap.size W w') := fun i hi W => place_any i hi W
  have HRd : Hid (∀ (W : World) (r : List UInt8) (k : UInt8) (_ : QAt W (w.heap.size + 1) r 0) (_ : r.length ≤ 10000) (_ : k ∈ letters8), Calls Tryz.prog 125 #[.pointer (some ⟨w.heap.size + 1, 0, none⟩), .int .u8 (k.toNat : Int)] W (GetPost (w.heap.size + 1) W (readP k r).1 (readP k r).2.1 (readP k r).2.2)) := fun W r k h1 h2 h3 => get_any h1 h2 h3
  have HL8 := Lib.hid hl8
  have hsS := bs_size s
  have hle : s.length + 1 ≤ 40000 := by omega
  have HSs := Lib.hid hs
  have hD0 : Holds ((w.alloc (.cells #[.int .i64 0, .string ⟨#[]⟩] 78)).alloc (.cells #[.string (bs s), .int .i64 0] 170)) w.heap.size 78 #[.int .i64 0, .string ⟨#[]⟩] := (Holds.new w 78 #[.int .i64 0, .string ⟨#[]⟩]).moves ((Moves.refl nobody _).alloc _) (fun h => h)
  have hQ0 : QAt ((w.alloc (.cells #[.int .i64 0, .string ⟨#[]⟩] 78)).alloc (.cells #[.string (bs s), .int .i64 0] 170)) (w.heap.size + 1) s 0 := by
    have := Holds.new (w.alloc (.cells #[.int .i64 0, .string ⟨#[]⟩] 78)) 170 #[.string (bs s), .int .i64 0]
    rwa [World.size_alloc] at this
  have HInv : Hid (ReadInv w ((w.alloc (.cells #[.int .i64 0, .string ⟨#[]⟩] 78)).alloc (.cells #[.string (bs s), .int .i64 0] 170)) F s 0 [] s (.slice none 0 0)) :=
    ⟨RdTo.start F s, rfl, Nat.le_refl _, World.ownsRow_nil _ _ _ _, by intro p hp; simp at hp, by intro p hp; simp at hp, hQ0, hD0, ((Below.refl _ w).alloc (Nat.le_refl _) _).alloc (by simp) _⟩
  clear hl8 hD0 hQ0 hs
  generalize hFF : bs F = FF at *
  clear hFF
  generalize bs (b :: s) = P at *
  generalize hS : bs s = S at *
  clear hS
  go_enter Tryz.func65, Tryz.ntmps65
  go_wp2_with fail
  generalize (w.alloc (.cells #[.int .i64 0, .string ⟨#[]⟩] 78)).alloc (.cells #[.string S, .int .i64 0] 170) = W0 at *
  go_loopw [7, 8] (fun p i wr => ∃ (j : Nat) (l : List (FieldR × Value)) (r : List UInt8) (v : Value), v = p ∧ j ≤ F.length ∧ i = .int .i64 j ∧ ReadInv w wr F s j l r v) (fun _ i _ => F.length - (intOf i).toNat)
  case atStart => exact ⟨0, [], s, _, rfl, Nat.zero_le _, rfl, HInv.out⟩
  case round =>
    clear HInv
    obtain ⟨j, l, r, v, hv0, hj, rfl, hinv⟩ := hrel
    subst hv0
    by_cases hlt : j < F.length
    · have c1 := HIx.out j hlt
      have hrl : r.length ≤ 10000 := Nat.le_trans hinv.rl HSs.out
      have HRj := Lib.hid (HRd.out wr r (F[j]'hlt) hinv.at_ hrl (HL8.out _ (List.getElem_mem hlt)))
      have HStep := Lib.hid (fun (Wb We : World) (x : FieldR) (r' : List UInt8) (v' : Value) (ao : Option Addr) (cap : Nat) => ReadInv.step (Wb := Wb) (We := We) (x := x) (r' := r') (v' := v') (ao := ao) (cap := cap) hinv hlt (by have := HSs.out; omega))
      have HFail := Lib.hid (fun h => hinv.rd.fail hlt h)
      have HBel := Lib.hid hinv.bel
      have HErr := Lib.hid hinv.err
      have hown := hinv.own
      have hlen := hinv.len
      have hvQ : ∀ g, v.ownBlock = some g → ¬ g = w.heap.size + 1 := fun g hg e => by have := (hown.lt g hg).1; omega
      have hQl := Holds.lt hinv.at_
      clear hinv hrl HRd HL8 HIx
      unfold GetPost at HRj
      have HEx : Hid (∃ er x r', (readP (F[j]'hlt) r).1 = er ∧ (readP (F[j]'hlt) r).2.1 = x ∧ (readP (F[j]'hlt) r).2.2 = r') := ⟨_, _, _, rfl, rfl, rfl⟩
      obtain ⟨er, x, r', e1, e2, e3⟩ := HEx.out
      have HE1 := Lib.hid e1
      have HE2 := Lib.hid e2
      have HE3 := Lib.hid e3
      rw [e1, e2, e3] at HRj
      clear e1 e2 e3 HEx
      have HK : Hid (∃ k : Int, k = ((F[j]'hlt).toNat : Int)) := ⟨_, rfl⟩
      obtain ⟨k, hk⟩ := HK.out
      rw [← hk] at HRj c1
      clear hk HK
      go_wp2_with fail
      go_at_call 125
      refine HRj.out.mono ?_
      rintro e' wb ⟨mb, k0, n0, s0, l0, ⟨⟨zk, rfl⟩, ⟨zn, rfl⟩, ⟨zs, rfl⟩, za, zm, zc, rfl⟩, rfl, hb⟩
      have hownB := rdOwn_moves hown mb hvQ
      have HMb := Lib.hid mb
      have HHb := Lib.hid hb
      have hErb := Holds.moves HErr.out mb (by omega)
      clear mb hb HRj hown HErr
      by_cases he : er = 0
      · obtain ⟨ao, cap, heq, hcap, hu, hR, hnew⟩ := HHb.out he
        unfold fieldV at heq
        have HC := Lib.hid (And.intro hcap (And.intro hu (And.intro hR hnew)))
        have HErz := Lib.hid he
        clear hcap hu hR hnew HHb
        injection heq with heq
        obtain ⟨rfl, rfl, rfl, rfl, rfl, rfl⟩ : zk = (x.kind.toNat : Int) ∧ zn = x.n ∧ zs = bs x.s ∧ ao = za ∧ zm = x.l.length ∧ cap = zc := by
          simp at heq
          exact ⟨heq.1, heq.2.1, heq.2.2.1, heq.2.2.2.1.symm, heq.2.2.2.2.1, heq.2.2.2.2.2.symm⟩
        have q0 : (er != 0) = false := by rw [he]; rfl
        have HX : Hid (∀ A : Obj, Holds ((wb.alloc A).alloc (.cells #[.int .u8 (x.kind.toNat : Int), .int .i64 x.n, .string (bs x.s), .slice ao x.l.length cap] 68)) (wb.heap.size + 1) 68 #[.int .u8 (x.kind.toNat : Int), .int .i64 x.n, .string (bs x.s), .slice ao x.l.length cap]) := fun A => by
          have := Holds.new (wb.alloc A) 68 #[.int .u8 (x.kind.toNat : Int), .int .i64 x.n, .string (bs x.s), .slice ao x.l.length cap]
          rwa [World.size_alloc] at this
        have hwb : w.heap.size + 2 ≤ wb.heap.size := by have := HMb.out.size; omega
        have hll : l.length ≤ 1000 := by omega
        clear he heq hErb
        go_wp2_with (
          (at_builtin
           refine wpList_app7 (B := w.heap.size + 2) (v := v) (l := l) rfl (.tmp 35) (.tmp 37) rfl rfl ((hownB.alloc _).alloc _) x (.slice ao x.l.length cap) rfl (wb.heap.size + 1) rfl (HX.out _) hll (by simp; omega) ?_
           intro v' We hown' hgr hvv))
        have me : Moves (fun i => v.ownBlock = some i) wb We := (((Moves.refl _ wb).alloc _).alloc _).grown hgr fun k hk => .inl hk
        have hvn : v'.ownBlock = v.ownBlock ∨ ∃ g, v'.ownBlock = some g ∧ wb.heap.size ≤ g := hvv.imp id fun h => ⟨_, h, by simp; omega⟩
        obtain ⟨hcap, hu, hR, hnew⟩ := HC.out
        have HNext := Lib.hid (HStep.out wb We x r' v' ao cap HMb.out (by rw [HE1.out, HErz.out]) HE2.out HE3.out hcap hu hnew hR hown' me hvn)
        clear hcap hu hR hnew hown' me hvn hgr hvv hownB
        go_wp2_with fail
        go_roundw
        case rel => exact ⟨j + 1, _, r', v', rfl, by omega, by go_num, HNext.out⟩
        case measure => simp [intOf]; omega
      · have hwb : Below w.heap.size w wb := HBel.out.trans (HMb.out.below HBel.out.size fun i hi => by omega)
        have HWb := Lib.hid hwb
        have q0 : (er != 0) = true := by rw [bne_iff_ne]; exact he
        have HPj := Lib.hid (HPl.out j (by omega))
        have HNz := Lib.hid he
        have HFl := Lib.hid (HFail.out (by rw [HE1.out]; exact he))
        have hEc := hErb.moves ((Moves.refl nobody wb).alloc (.cells #[.int .u8 zk, .int .i64 zn, .string zs, .slice za zm zc] 68)) (fun h => h)
        have HEc := Lib.hid hEc
        clear hwb he HFail HStep HHb hErb hEc
        obtain ⟨PB, hPB⟩ : ∃ PB, PB = placeB j ++ blankS := ⟨_, rfl⟩
        have HPB := Lib.hid hPB
        rw [← hPB] at HPj
        clear hPB
        have HWc : Hid (∀ W, Below (wb.alloc (.cells #[.int .u8 zk, .int .i64 zn, .string zs, .slice za zm zc] 68)).heap.size (wb.alloc (.cells #[.int .u8 zk, .int .i64 zn, .string zs, .slice za zm zc] 68)) W → Below w.heap.size w W ∧ Holds W w.heap.size 78 #[.int .i64 0, .string ⟨#[]⟩]) := fun W b => ⟨(HWb.out.alloc HWb.out.size _).trans (b.mono (HWb.out.alloc HWb.out.size _).size), HEc.out.moves (Moves.ofBelow (S := nobody) b) (fun h => h)⟩
        go_wp2_with fail
        go_at_call 126
        refine (HPj.out _).mono ?_
        rintro e' w6 ⟨rfl, b6⟩
        obtain ⟨hB6, hE6⟩ := HWc.out w6 b6
        have d0 := hE6.cell 0
        have d1 := hE6.cell 1
        have f0 := hE6.frozen 0
        have f1 := hE6.frozen 1
        go_wp2_with fail
        have hF := Holds.set (Holds.set hE6 0 (.int .i64 er)) 1 (.string PB)
        have mf : Moves (fun i => i = w.heap.size) w6 _ := ((Moves.refl (fun i => i = w.heap.size) w6).setCell (p := ⟨w.heap.size, 0, none⟩) (.inl rfl) (.int .i64 er)).setCell (p := ⟨w.heap.size, 1, none⟩) (.inl rfl) (.string PB)
        try simp only [Exit.inBlock, Exit.then]
        refine bodyPost_ret (rdResults2 (p := 5) (u := 4) rfl _ _ w.heap.size _ _ (0, 0) _ rfl hF Tryz.underlying78 rfl (by kernel_rfl)) rfl ⟨hB6.trans (mf.below hB6.size fun i hi => Nat.le_of_eq hi.symm), .inl ?_⟩
        rw [HFl.out]
        refine ⟨by rw [HE1.out]; exact HNz.out, ?_⟩
        rw [HE1.out, ← HPB.out]
        rfl
    · have hjF : j = F.length := by omega
      have HAll := Lib.hid (RdTo.all (by rw [← hjF]; exact hinv.rd))
      have HEnd := Lib.hid (qEnd_any hinv.at_)
      have HInv := Lib.hid hinv
      have hE6 := hinv.err
      have hlen := hinv.len
      have d0 := hE6.cell 0
      have d1 := hE6.cell 1
      have f0 := hE6.frozen 0
      have f1 := hE6.frozen 1
      obtain ⟨ao, n, cap, rfl⟩ : ∃ ao n cap, v = .slice ao n cap := by
        rcases hinv.own.2 with ⟨h, _⟩ | ⟨g, cap, cur, h, _⟩
        · exact ⟨none, 0, 0, h⟩
        · exact ⟨_, _, _, h⟩
      have HE6 := Lib.hid hE6
      clear hinv hjF HRd hE6
      by_cases hz : endP r 0 = 0
      · rw [hz] at HEnd
        have HNz := Lib.hid hz
        clear hz
        go_wp2_with (go_at_call 127; refine HEnd.out.mono ?_; rintro e' w5 ⟨rfl, hw5⟩; have hw5 := hw5.symm; subst hw5)
        have hF := Holds.set (Holds.set HE6.out 0 (.int .i64 0)) 1 (.string ⟨#[]⟩)
        have mf : Moves (fun i => i = w.heap.size) wr _ := ((Moves.refl (fun i => i = w.heap.size) wr).setCell (p := ⟨w.heap.size, 0, none⟩) (.inl rfl) (.int .i64 0)).setCell (p := ⟨w.heap.size, 1, none⟩) (.inl rfl) (.string ⟨#[]⟩)
        try simp only [Exit.inBlock, Exit.then]
        have hinv := HInv.out
        refine bodyPost_ret (rdResults2 (p := 5) (u := 4) rfl _ _ w.heap.size _ _ (0, 0) _ rfl hF Tryz.underlying78 rfl (by kernel_rfl)) rfl ⟨hinv.bel.trans (mf.below hinv.bel.size fun i hi => Nat.le_of_eq hi.symm), .inr (.inr ?_)⟩
        rw [HAll.out]
        refine ⟨rfl, HNz.out, ao, n, cap, rfl, fun S w2 hS hm2 => ?_⟩
        have mm : Moves (fun i => S i ∨ i = w.heap.size) wr w2 := (mf.mono fun i h _ => .inr h).trans hm2 fun i h => .inl (.inl h)
        refine FieldsAt.ofRow (rdOwn_moves hinv.own mm fun g hg e => ?_) (fun p hp => ?_) (by rw [hinv.len]; omega)
        · have h1 := (hinv.own.lt g hg).1
          rcases e with e | e
          · have := hS g e; omega
          · omega
        · obtain ⟨⟨ao', cap', e1, e2, e3⟩, e4⟩ := hinv.lists p hp
          refine ⟨⟨ao', cap', e1, e2, e3.moves2 mm fun hne g hg e => ?_⟩, e4⟩
          have h1 := (hinv.far p hp (by simpa using hne) g (by rw [e1]; exact hg)).1
          rcases e with e | e
          · have := hS g e; omega
          · omega
      · have q5 : (endP r 0 != 0) = true := by rw [bne_iff_ne]; exact hz
        have HNz := Lib.hid hz
        obtain ⟨E, hE⟩ : ∃ E, E = endP r 0 := ⟨_, rfl⟩
        rw [← hE] at HEnd q5
        clear hz hE
        go_wp2_with (go_at_call 127; refine HEnd.out.mono ?_; rintro e' w5 ⟨rfl, hw5⟩; have hw5 := hw5.symm; subst hw5)
        have hF := Holds.set (Holds.set HE6.out 0 (.int .i64 3)) 1 (.string ⟨#[101, 110, 100, 32]⟩)
        have mf : Moves (fun i => i = w.heap.size) wr _ := ((Moves.refl (fun i => i = w.heap.size) wr).setCell (p := ⟨w.heap.size, 0, none⟩) (.inl rfl) (.int .i64 3)).setCell (p := ⟨w.heap.size, 1, none⟩) (.inl rfl) (.string ⟨#[101, 110, 100, 32]⟩)
        try simp only [Exit.inBlock, Exit.then]
        have hinv := HInv.out
        refine bodyPost_ret (rdResults2 (p := 5) (u := 4) rfl _ _ w.heap.size _ _ (0, 0) _ rfl hF Tryz.underlying78 rfl (by kernel_rfl)) rfl ⟨hinv.bel.trans (mf.below hinv.bel.size fun i hi => Nat.le_of_eq hi.symm), .inr (.inl ?_)⟩
        rw [HAll.out]
        exact ⟨rfl, HNz.out, rfl⟩
end Go.Proofs.YtkmhdepohcncaaaGreatDoor

namespace Go.Proofs.YtkmhdepohcncaaaGreatDoor
open Go.RowKit

theorem readF_any {w : World} (b : UInt8) (f : ByteArray) (n : Int) (hf : f ∈ formsP n) (s : List UInt8) (hs : s.length ≤ 10000) :
    Calls Tryz.prog 65 #[.string (bs (b :: s)), .string f] w fun e w' => Below w.heap.size w w' ∧
      ((fitsF f s = true ∧ ∃ ao n cap, e = .returned (.tuple #[.slice ao n cap, .agg #[.int .i64 0, .string ⟨#[]⟩]]) ∧ FieldsKept w' (.slice ao n cap) (fieldsF f s) w.heap.size) ∨ (fitsF f s = false ∧ codeF f s ≠ 0 ∧ e = .returned (.tuple #[.slice none 0 0, .agg #[.int .i64 (codeF f s), .string (placeF f s ++ blankS)]]))) := by
  have hl := forms_letters hf
  have h := rread_any (w := w) b (lettersOf f) s hs (by omega) hl.2
  rw [bs_letters] at h
  refine h.mono fun e w' ⟨hb, hc⟩ => ⟨hb, ?_⟩
  unfold fitsF fieldsF placeF codeF
  rcases hc with ⟨h1, h2⟩ | ⟨h1, h2, h3⟩ | ⟨h1, h2, h3⟩
  · exact .inr ⟨by rw [decide_eq_false h1]; rfl, by rw [if_neg h1]; exact h1, by rw [if_neg h1, if_neg h1]; exact h2⟩
  · have he : endP (readsP (lettersOf f) s).2.2.2 0 = 3 := by
      unfold endP at h2 ⊢
      rw [if_neg (by omega)] at h2 ⊢
      split
      · rename_i h; rw [if_pos h] at h2; exact absurd rfl h2
      · rfl
    refine .inr ⟨by rw [decide_eq_true h1, decide_eq_false h2]; rfl, by rw [if_pos h1]; exact h2, ?_⟩
    rw [if_pos h1, if_pos h1, he, h3]
    rfl
  · exact .inl ⟨by rw [decide_eq_true h1, decide_eq_true h2]; rfl, h3⟩
theorem readsP_le : ∀ (F r : List UInt8), (readsP F r).1 ≤ F.length
  | [], _ => Nat.le_refl _
  | k :: F, r => by
    by_cases h0 : (readP k r).1 = 0
    · rw [readsP_ok h0]
      have := readsP_le F (readP k r).2.2
      show _ + 1 ≤ F.length + 1
      omega
    · rw [readsP_no h0]
      exact Nat.zero_le _
theorem place_size (j : Nat) (hj : j ≤ 13) : (placeB j).size ≤ 2 := by
  unfold placeB
  rcases j with _ | _ | _ | _ | _ | _ | _ | _ | _ | _ | _ | _ | _ | _ | j
  all_goals first
    | omega
    | (rw [Lib.decDigits]; decide)
    | (rw [Lib.decDigits, Lib.decDigits]; decide)
theorem placeF_size {n : Int} {f : ByteArray} (hf : f ∈ formsP n) (s : List UInt8) : (placeF f s).size ≤ 3 := by
  unfold placeF
  split
  · decide
  · have := place_size (readsP (lettersOf f) s).1 (Nat.le_trans (readsP_le _ _) (forms_letters hf).1)
    omega
theorem ofP_num {n : Int} (h : formsP n ≠ []) : (ofP n).1 = n := by
  unfold ofP
  cases hr : rowP n with
  | none => unfold formsP at h; rw [hr] at h; exact absurd rfl h
  | some r =>
    have := List.find?_some hr
    simp at this
    exact this.symm

theorem rdResults3 {P : Program} {fn : Func} {p q : Tmp} {ty tz : TypeId} (h : fn.results = #[.cell p ty, .cell q tz]) (tmps : Array Value) (w : World) (g g2 : Nat) (t t2 : TypeId) (cs cs2 : Array Value) (fr fr2 : Nat × Nat) (d d2 : TypeDesc)
    (hp : tmps.getD p undef = .pointer (some ⟨g, 0, none⟩)) (hg : w.heap[g]? = some (.cells cs t fr)) (hq : tmps.getD q undef = .pointer (some ⟨g2, 0, none⟩)) (hg2 : w.heap[g2]? = some (.cells cs2 t2 fr2))
    (hu : P.underlying ty = some d) (hd : (match d with | .struct _ | .array _ _ => true | _ => false) = true) (hi : (P.info? ty).map (·.size) = some cs.size)
    (hu2 : P.underlying tz = some d2) (hd2 : (match d2 with | .struct _ | .array _ _ => true | _ => false) = true) (hi2 : (P.info? tz).map (·.size) = some cs2.size) :
    (results fn tmps).run P w = .ok (.tuple #[.agg cs, .agg cs2]) w := by
  have hp' : tmps[p]?.getD undef = .pointer (some ⟨g, 0, none⟩) := by simpa using hp
  have hq' : tmps[q]?.getD undef = .pointer (some ⟨g2, 0, none⟩) := by simpa using hq
  simp [results, h, hp', hq', asAddr, run_loadVar_row w g t ty cs fr d hg hu hd hi, run_loadVar_row w g2 t2 tz cs2 fr2 d2 hg2 hu2 hd2 hi2]
def RDecPost (n : Int) (s : List UInt8) (w : World) (r : Ending) (w' : World) : Prop :=
  Below w.heap.size w w' ∧
  ((∃ f ao m cap, (formsP n).find? (fun f => fitsF f s) = some f ∧ r = .returned (.tuple #[msgV n (.slice ao m cap), .agg #[.int .i64 0, .string ⟨#[]⟩]]) ∧ FieldsAt w' (.slice ao m cap) (fieldsF f s)) ∨
   ((formsP n).find? (fun f => fitsF f s) = none ∧ codeF (firstF n) s ≠ 0 ∧ r = .returned (.tuple #[zeroM, .agg #[.int .i64 (codeF (firstF n) s), .string (wordP n ++ blankS ++ (placeF (firstF n) s ++ blankS))]])))

set_option maxHeartbeats 4000000 in
set_option maxRecDepth 100000 in
theorem rdecode_some {w : World} {b : UInt8} {s : List UInt8} (hs : s.length ≤ 10000) (hk : formsP (b.toNat : Int) ≠ []) :
    Calls Tryz.prog 34 #[.string (bs (b :: s))] w (RDecPost (b.toNat : Int) s w) := by
  have hix : ∀ W : World, (Instr.index 9 (.string (bs (b :: s))) (.int .i64 0)).run Tryz.prog W = .ok (.int .u8 (b.toNat : Int)) W := fun W => index_bs (b :: s) 0 (by simp) W
  have hcv : ∀ W : World, (convert 5 3 (.int .u8 (b.toNat : Int))).run Tryz.prog W = .ok (.int .i64 (b.toNat : Int)) W := fun W => by
    have := UInt8.toNat_lt b
    have h : IntKind.i64.wrap (b.toNat : Int) = (b.toNat : Int) := IntWalk.i64_in _ (by omega)
    simp [go_sem, Tryz.underlying5, Tryz.underlying3, h]
  have hsz : (bs (b :: s)).size = s.length + 1 := by rw [bs_size]; rfl
  have q1 : decide (((s.length : Int) + 1) > 32768) = false := decide_eq_false (by omega)
  have q2 : decide (32768 < ((s.length : Int) + 1)) = false := decide_eq_false (by omega)
  have q3 : (((s.length : Int) + 1) == 0) = false := by rw [beq_eq_false_iff_ne]; omega
  have hsz2 : (bs (b :: s)).size ≤ 40000 := by omega
  have HOf := Lib.hid (fun W => of_any W (b.toNat : Int))
  have HRd : Hid (∀ (W : World) (f : ByteArray) (_ : f ∈ formsP (b.toNat : Int)), _) := fun W f hf => readF_any (w := W) b f _ hf s hs
  have hp0 := List.length_pos_iff.2 hk
  have hl3 := formsP_len (b.toNat : Int)
  have hof := ofP_forms (b.toNat : Int)
  have how := ofP_word (b.toNat : Int)
  have hon := ofP_num hk
  rw [hof, how, hon] at HOf
  clear hof how hon hk hs
  generalize (b.toNat : Int) = n at *
  generalize bs (b :: s) = P at *
  unfold RDecPost
  have HWl : Hid ((wordP n).size ≤ 100) := by
    show _ ≤ _
    unfold wordP
    cases hr : rowP n with
    | none => exact Nat.zero_le _
    | some r =>
      have hm := List.mem_of_find?_eq_some hr
      have : ∀ r ∈ tableP, r.2.1.size ≤ 100 := by decide
      exact this r hm
  obtain ⟨WD, hWD⟩ : ∃ x, x = wordP n := ⟨_, rfl⟩
  rw [← hWD] at HOf HWl
  have HWD := Lib.hid hWD
  clear hWD
  have hM0 := (Holds.new w 59 #[.int .i64 0, .slice none 0 0]).moves ((Moves.refl nobody _).alloc (.cells #[.int .i64 0, .string ⟨#[]⟩] 78)) (fun h => h)
  have hE0 := Holds.new (w.alloc (.cells #[.int .i64 0, .slice none 0 0] 59)) 78 #[.int .i64 0, .string ⟨#[]⟩]
  rw [World.size_alloc] at hE0
  have hB0 : Below w.heap.size w ((w.alloc (.cells #[.int .i64 0, .slice none 0 0] 59)).alloc (.cells #[.int .i64 0, .string ⟨#[]⟩] 78)) := ((Below.refl _ w).alloc (Nat.le_refl _) _).alloc (by simp) _
  have hs0 : ((w.alloc (.cells #[.int .i64 0, .slice none 0 0] 59)).alloc (.cells #[.int .i64 0, .string ⟨#[]⟩] 78)).heap.size = w.heap.size + 2 := by simp
  have HM0 := Lib.hid hM0
  have HE0 := Lib.hid hE0
  have HB0 := Lib.hid hB0
  have HS0 := Lib.hid hs0
  clear hM0 hE0 hB0 hs0
  go_enter Tryz.func34, Tryz.ntmps34
  go_wp2_with fail
  go_at_call 64
  refine (HOf.out _).mono ?_
  rintro e' w1 ⟨v, rfl, hv, b1⟩
  obtain ⟨ao, cap, rfl, hcells⟩ := hv
  have mR : Moves nobody w1 (w1.alloc (.cells #[.int .i64 n, .string WD, .slice ao (formsP n).length cap] 115)) := (Moves.refl nobody w1).alloc _
  have HM1 := Lib.hid ((HM0.out.moves (Moves.ofBelow (S := nobody) b1) (fun h => h)).moves mR (fun h => h))
  have HE1 := Lib.hid ((HE0.out.moves (Moves.ofBelow (S := nobody) b1) (fun h => h)).moves mR (fun h => h))
  have HB1 : Hid (Below w.heap.size w (w1.alloc (.cells #[.int .i64 n, .string WD, .slice ao (formsP n).length cap] 115))) := (HB0.out.trans (b1.mono HB0.out.size)).alloc (Nat.le_trans HB0.out.size b1.size) _
  have HR1 : Hid (Holds (w1.alloc (.cells #[.int .i64 n, .string WD, .slice ao (formsP n).length cap] 115)) w1.heap.size 115 #[.int .i64 n, .string WD, .slice ao (formsP n).length cap]) := Holds.new w1 _ _
  have HCe : Hid (∀ k (hk : k < (formsP n).length), ∃ bb off, ao = some ⟨bb, off, none⟩ ∧ bb < (w1.alloc (.cells #[.int .i64 n, .string WD, .slice ao (formsP n).length cap] 115)).heap.size ∧ (w1.alloc (.cells #[.int .i64 n, .string WD, .slice ao (formsP n).length cap] 115)).cell? ⟨bb, off + k, none⟩ = some (.string ((formsP n)[k]'hk))) := fun k hk => by
    obtain ⟨bb, off, e, hb, hc⟩ := hcells (by intro h; rw [h] at hk; simp at hk)
    exact ⟨bb, off, e, Nat.lt_of_lt_of_le hb mR.size, (mR.cell (p := ⟨bb, off + k, none⟩) hb (fun h => h)).trans (hc k _ (List.getElem?_eq_getElem hk))⟩
  have HSz : Hid (w.heap.size + 2 ≤ w1.heap.size) := by have := HS0.out; have := b1.size; show _ ≤ _; omega
  have q4 : (((formsP n).length : Int) == 0) = false := by rw [beq_eq_false_iff_ne]; omega
  clear hcells mR b1 HOf HM0 HE0 HB0 HS0
  go_wp2_with fail
  generalize w1.alloc (.cells #[.int .i64 n, .string WD, .slice ao (formsP n).length cap] 115) = W0 at *
  have hR0 := HR1.out.lt
  go_loopw [5] (fun i wr => ∃ k : Nat, k ≤ (formsP n).length ∧ i = .int .i64 k ∧ (∀ x ∈ (formsP n).take k, fitsF x s = false) ∧ Below W0.heap.size W0 wr) (fun i _ => (formsP n).length - (intOf i).toNat)
  case atStart => exact ⟨0, Nat.zero_le _, rfl, by simp, Below.refl _ _⟩
  case round =>
    obtain ⟨k, hk, rfl, hno, hb0⟩ := hrel
    have hRr := HR1.out.moves (Moves.ofBelow (S := nobody) hb0) (fun h => h)
    have y0 := hRr.cell 0
    have y1 := hRr.cell 1
    have y2 := hRr.cell 2
    by_cases hlt : k < (formsP n).length
    · obtain ⟨bb, off, rfl, hbl, hc⟩ := HCe.out k hlt
      have c1 : wr.cell? ⟨bb, off + k, none⟩ = some (.string ((formsP n)[k]'hlt)) := (hb0.cell (p := ⟨bb, off + k, none⟩) hbl).trans hc
      have HRk := Lib.hid (HRd.out wr ((formsP n)[k]'hlt) (List.getElem_mem hlt))
      have HFd := Lib.hid (fun hp => find_at hlt hno hp)
      have HNo : Hid (fitsF ((formsP n)[k]'hlt) s = false → ∀ x ∈ (formsP n).take (k + 1), fitsF x s = false) := fun hp x hx => by
        rw [List.take_succ_eq_append_getElem hlt, List.mem_append] at hx
        rcases hx with hx | hx
        · exact hno x hx
        · simp at hx
          rw [hx]; exact hp
      have HBr := Lib.hid hb0
      have HRr := Lib.hid hRr
      clear hno hc hb0 hbl hRr HCe HRd
      generalize (formsP n)[k]'hlt = f at *
      go_wp2_with fail
      go_at_call 65
      refine HRk.out.mono ?_
      rintro e' w3 ⟨b3, h3⟩
      have HR3 := HRr.out.moves (Moves.ofBelow (S := nobody) b3) (fun h => h)
      rcases h3 with ⟨hfit, ao3, n3, cap3, rfl, hfs⟩ | ⟨hfit, hcz, rfl⟩
      · have m4 : Moves nobody w3 (w3.alloc (.cells #[.int .i64 0, .string ⟨#[]⟩] 78)) := (Moves.refl nobody w3).alloc _
        have hb4 : Below W0.heap.size W0 (w3.alloc (.cells #[.int .i64 0, .string ⟨#[]⟩] 78)) := (HBr.out.trans (b3.mono HBr.out.size)).alloc (Nat.le_trans HBr.out.size b3.size) _
        have hR4 := HR3.moves m4 (fun h => h)
        have hM4 := HM1.out.moves (Moves.ofBelow (S := nobody) hb4) (fun h => h)
        have hE4 := HE1.out.moves (Moves.ofBelow (S := nobody) hb4) (fun h => h)
        have z0 := hR4.cell 0
        have d0 := hM4.cell 0
        have d1 := hM4.cell 1
        have f0 := hM4.frozen 0
        have f1 := hM4.frozen 1
        have e0 := hE4.cell 0
        have e1 := hE4.cell 1
        have g0 := hE4.frozen 0
        have g1 := hE4.frozen 1
        have hwr : W0.heap.size ≤ wr.heap.size := HBr.out.size
        have hsz0 := HSz.out
        have hW0 : w1.heap.size < W0.heap.size := HR1.out.lt
        have HFs := Lib.hid hfs
        have HFit := Lib.hid hfit
        have HM4 := Lib.hid hM4
        have HE4 := Lib.hid hE4
        have HB4 := Lib.hid hb4
        clear hfs hfit hM4 hE4 hb4 m4 hR4
        go_wp2_with fail
        have hF1 := Holds.set (Holds.set HM4.out 0 (.int .i64 n)) 1 (.slice ao3 n3 cap3)
        have mf1 : Moves (fun i => i = w.heap.size) (w3.alloc (.cells #[.int .i64 0, .string ⟨#[]⟩] 78)) _ := ((Moves.refl (fun i => i = w.heap.size) _).setCell (p := ⟨w.heap.size, 0, none⟩) (.inl rfl) (.int .i64 n)).setCell (p := ⟨w.heap.size, 1, none⟩) (.inl rfl) (.slice ao3 n3 cap3)
        have hE5 := Holds.moves HE4.out mf1 (by omega)
        have hF2 := Holds.set (Holds.set hE5 0 (.int .i64 0)) 1 (.string ⟨#[]⟩)
        have mf2 : Moves (fun i => i = w.heap.size + 1) (((w3.alloc (.cells #[.int .i64 0, .string ⟨#[]⟩] 78)).setCell ⟨w.heap.size, 0, none⟩ (.int .i64 n)).setCell ⟨w.heap.size, 1, none⟩ (.slice ao3 n3 cap3)) _ := ((Moves.refl (fun i => i = w.heap.size + 1) _).setCell (p := ⟨w.heap.size + 1, 0, none⟩) (.inl rfl) (.int .i64 0)).setCell (p := ⟨w.heap.size + 1, 1, none⟩) (.inl rfl) (.string ⟨#[]⟩)
        have hF1b := Holds.moves hF1 mf2 (by omega)
        have mm : Moves (fun i => i = w.heap.size ∨ i = w.heap.size + 1) (w3.alloc (.cells #[.int .i64 0, .string ⟨#[]⟩] 78)) _ := (mf1.mono fun i h _ => .inl h).trans mf2 fun i h => .inl (.inr h)
        have mm3 : Moves (fun i => i = w.heap.size ∨ i = w.heap.size + 1) w3 _ := ((Moves.refl (fun i => i = w.heap.size ∨ i = w.heap.size + 1) w3).alloc (.cells #[.int .i64 0, .string ⟨#[]⟩] 78)).trans mm fun i h => .inl h
        try simp only [Exit.inBlock, Exit.then]
        refine bodyPost_ret (rdResults3 (p := 2) (q := 3) rfl _ _ w.heap.size (w.heap.size + 1) _ _ _ _ (0, 0) (0, 0) _ _ rfl hF1b rfl hF2 Tryz.underlying59 rfl (by kernel_rfl) Tryz.underlying78 rfl (by kernel_rfl)) rfl ⟨?_, .inl ⟨f, ao3, n3, cap3, HFd.out HFit.out, rfl, HFs.out _ _ (fun i h => by rcases h with h | h <;> omega) mm3⟩⟩
        have hB5 : Below w.heap.size w (w3.alloc (.cells #[.int .i64 0, .string ⟨#[]⟩] 78)) := HB1.out.trans (HB4.out.mono HB1.out.size)
        exact hB5.trans (mm.below hB5.size fun i h => by rcases h with h | h <;> omega)
      · have qz : (codeF f s == 0) = false := by rw [beq_eq_false_iff_ne]; exact hcz
        clear hcz
        go_wp2_with fail
        go_roundw
        case rel => exact ⟨k + 1, by omega, by go_num, HNo.out hfit, (HBr.out.trans (b3.mono HBr.out.size)).alloc (Nat.le_trans HBr.out.size b3.size) _⟩
        case measure => simp [intOf]; omega
    · have hkl : k = (formsP n).length := by omega
      have hall : ∀ x ∈ formsP n, fitsF x s = false := by
        rw [hkl, List.take_length] at hno
        exact hno
      have HFn : Hid ((formsP n).find? (fun f => fitsF f s) = none) := by
        show _ = _
        rw [List.find?_eq_none]
        intro x hx
        rw [hall x hx]
        simp
      obtain ⟨bb, off, rfl, hbl, hc⟩ := HCe.out 0 hp0
      have c1 : wr.cell? ⟨bb, off, none⟩ = some (.string ((formsP n)[0]'hp0)) := (hb0.cell (p := ⟨bb, off, none⟩) hbl).trans hc
      have hff : (formsP n)[0]'hp0 = firstF n := by
        unfold firstF
        rw [List.getD_eq_getElem?_getD, List.getElem?_eq_getElem hp0]
        rfl
      have HRk := Lib.hid (HRd.out wr ((formsP n)[0]'hp0) (List.getElem_mem hp0))
      have HNf := Lib.hid (hall _ (List.getElem_mem hp0))
      have HSize := Lib.hid (placeF_size (List.getElem_mem hp0) s)
      rw [hff] at c1 HRk HNf HSize
      have HBr := Lib.hid hb0
      have HRr := Lib.hid hRr
      clear hno hall hc hb0 hbl hRr HCe HRd hff hkl
      obtain ⟨f, hfF⟩ : ∃ f, f = firstF n := ⟨_, rfl⟩
      rw [← hfF] at c1 HRk HNf HSize
      have HfF := Lib.hid hfF
      clear hfF
      go_wp2_with fail
      go_at_call 65
      refine HRk.out.mono ?_
      rintro e' w3 ⟨b3, h3⟩
      rcases h3 with ⟨hfit, _⟩ | ⟨hfit, hcz, rfl⟩
      · rw [HNf.out] at hfit; cases hfit
      have HR3 := HRr.out.moves (Moves.ofBelow (S := nobody) b3) (fun h => h)
      have HCz := Lib.hid hcz
      have HPl : Hid ((placeF f s ++ blankS).size ≤ 100000) := by
        show _ ≤ _
        have := HSize.out
        rw [ByteArray.size_append]
        show _ + 1 ≤ _
        omega
      obtain ⟨PL, hPL⟩ : ∃ x, x = placeF f s ++ blankS := ⟨_, rfl⟩
      obtain ⟨cf, hcf⟩ : ∃ x, x = codeF f s := ⟨_, rfl⟩
      rw [← hPL] at HPl ⊢
      rw [← hcf] at HCz ⊢
      have HPL := Lib.hid hPL
      have Hcf := Lib.hid hcf
      clear hPL hcf
      have m4 : Moves nobody w3 (w3.alloc (.cells #[.int .i64 cf, .string PL] 78)) := (Moves.refl nobody w3).alloc _
      have hb4 : Below W0.heap.size W0 (w3.alloc (.cells #[.int .i64 cf, .string PL] 78)) := (HBr.out.trans (b3.mono HBr.out.size)).alloc (Nat.le_trans HBr.out.size b3.size) _
      have hR4 := HR3.moves m4 (fun h => h)
      have hM4 := HM1.out.moves (Moves.ofBelow (S := nobody) hb4) (fun h => h)
      have hE4 := HE1.out.moves (Moves.ofBelow (S := nobody) hb4) (fun h => h)
      have g1 : ∀ W : World, (Op.stringOp .add WD ⟨#[32]⟩).run Tryz.prog W = .ok (.string (WD ++ ⟨#[32]⟩)) W := fun W => run_string_add_sum (P := Tryz.prog) W WD ⟨#[32]⟩ (by have := HWl.out; show WD.size + 1 ≤ _; omega)
      have g2 : ∀ W : World, (Op.stringOp .add (WD ++ ⟨#[32]⟩) PL).run Tryz.prog W = .ok (.string (WD ++ ⟨#[32]⟩ ++ PL)) W := fun W => run_string_add_sum (P := Tryz.prog) W (WD ++ ⟨#[32]⟩) PL (by rw [ByteArray.size_append]; have := HWl.out; have := HPl.out; show WD.size + 1 + PL.size ≤ _; omega)
      obtain ⟨X1, hX1⟩ : ∃ x, x = WD ++ ⟨#[32]⟩ := ⟨_, rfl⟩
      obtain ⟨X2, hX2⟩ : ∃ x, x = X1 ++ PL := ⟨_, rfl⟩
      rw [← hX1] at g1 g2
      rw [← hX2] at g2
      have HX1 := Lib.hid hX1
      have HX2 := Lib.hid hX2
      have z1 := hR4.cell 1
      have d0 := hM4.cell 0
      have d1 := hM4.cell 1
      have f0 := hM4.frozen 0
      have f1 := hM4.frozen 1
      have e0 := hE4.cell 0
      have e1 := hE4.cell 1
      have k0 := hE4.frozen 0
      have k1 := hE4.frozen 1
      have HM4 := Lib.hid hM4
      have HE4 := Lib.hid hE4
      have HB4 := Lib.hid hb4
      have hsz0 := HSz.out
      have hW0 : w1.heap.size < W0.heap.size := HR1.out.lt
      clear hX1 hX2 hcz hfit hM4 hE4 hb4 m4 hR4
      have hN4 : Holds (w3.alloc (.cells #[.int .i64 cf, .string PL] 78)) w3.heap.size 78 #[.int .i64 cf, .string PL] := Holds.new w3 _ _
      have hs3 : W0.heap.size ≤ w3.heap.size := Nat.le_trans HBr.out.size b3.size
      go_wp2_with fail
      obtain ⟨W4, hW4⟩ : ∃ W4, W4 = w3.alloc (.cells #[.int .i64 cf, .string PL] 78) := ⟨_, rfl⟩
      rw [← hW4] at z1 d0 d1 f0 f1 e0 e1 k0 k1 HM4 HE4 HB4 hN4 ⊢
      clear hW4 c1 y0 y1 y2
      have n0 := hN4.cell 0
      have n1 := hN4.cell 1
      have z1d : W4.drew.cell? ⟨w1.heap.size, 1, none⟩ = some (.string WD) := z1
      have n0d : W4.drew.cell? ⟨w3.heap.size, 0, none⟩ = some (.int .i64 cf) := n0
      have n1d : W4.drew.cell? ⟨w3.heap.size, 1, none⟩ = some (.string PL) := n1
      have d0d : W4.drew.cell? ⟨w.heap.size, 0, none⟩ = some (.int .i64 0) := d0
      have d1d : W4.drew.cell? ⟨w.heap.size, 1, none⟩ = some (.slice none 0 0) := d1
      have f0d : W4.drew.frozen? ⟨w.heap.size, 0, none⟩ = false := f0
      have f1d : W4.drew.frozen? ⟨w.heap.size, 1, none⟩ = false := f1
      have e0d : W4.drew.cell? ⟨w.heap.size + 1, 0, none⟩ = some (.int .i64 0) := e0
      have e1d : W4.drew.cell? ⟨w.heap.size + 1, 1, none⟩ = some (.string ⟨#[]⟩) := e1
      have k0d : W4.drew.frozen? ⟨w.heap.size + 1, 0, none⟩ = false := k0
      have k1d : W4.drew.frozen? ⟨w.heap.size + 1, 1, none⟩ = false := k1
      go_region
      go_wp2_with fail
      have hF1 := Holds.set (Holds.set HM4.out 0 (.int .i64 0)) 1 (.slice none 0 0)
      have mf1 : Moves (fun i => i = w.heap.size) W4 _ := ((Moves.refl (fun i => i = w.heap.size) W4).setCell (p := ⟨w.heap.size, 0, none⟩) (.inl rfl) (.int .i64 0)).setCell (p := ⟨w.heap.size, 1, none⟩) (.inl rfl) (.slice none 0 0)
      have hE5 := Holds.moves HE4.out mf1 (by omega)
      have hF2 := Holds.set (Holds.set hE5 0 (.int .i64 cf)) 1 (.string X2)
      have mf2 : Moves (fun i => i = w.heap.size + 1) ((W4.setCell ⟨w.heap.size, 0, none⟩ (.int .i64 0)).setCell ⟨w.heap.size, 1, none⟩ (.slice none 0 0)) _ := ((Moves.refl (fun i => i = w.heap.size + 1) _).setCell (p := ⟨w.heap.size + 1, 0, none⟩) (.inl rfl) (.int .i64 cf)).setCell (p := ⟨w.heap.size + 1, 1, none⟩) (.inl rfl) (.string X2)
      have hF1b := Holds.moves hF1 mf2 (by omega)
      have mm : Moves (fun i => i = w.heap.size ∨ i = w.heap.size + 1) W4 _ := ((mf1.mono fun i h _ => .inl h).trans mf2 fun i h => .inl (.inr h)).drew
      have hB5 : Below w.heap.size w W4 := HB1.out.trans (HB4.out.mono HB1.out.size)
      try simp only [Exit.inBlock, Exit.then]
      refine bodyPost_ret (rdResults3 (p := 2) (q := 3) rfl _ _ w.heap.size (w.heap.size + 1) _ _ _ _ (0, 0) (0, 0) _ _ rfl hF1b rfl hF2 Tryz.underlying59 rfl (by kernel_rfl) Tryz.underlying78 rfl (by kernel_rfl)) rfl ⟨hB5.trans (mm.below hB5.size fun i h => by rcases h with h | h <;> omega), .inr ⟨HFn.out, by rw [← HfF.out, ← Hcf.out]; exact HCz.out, ?_⟩⟩
      rw [← HfF.out, ← Hcf.out, ← HPL.out, ← HWD.out]
      show _ = Ending.returned (.tuple #[zeroM, .agg #[.int .i64 cf, .string (WD ++ ⟨#[32]⟩ ++ PL)]])
      rw [← HX1.out, ← HX2.out]
      rfl
end Go.Proofs.YtkmhdepohcncaaaGreatDoor
