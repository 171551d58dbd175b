/- Layer 32: AgreeMaps: what is asked of an accept and its source. -/
import Derived.Test.YtpkkeeblgbdfdaaAgQa
namespace Go.Proofs.Ytpkkeeblgbdfdaa
open Go.RowKit

set_option maxHeartbeats 16000000 in
set_option maxRecDepth 100000 in
theorem agm8_4 {w w7 : World} {b off cap len k s : Nat} {DK DS : DoV} {whk sidk : Int} {x1 x2 x6 x7 x8 x9 x10 x11 x12 x13 x14 x15 x16 x17 x18 x19 x20 x21 x22 x23 x24 x25 x26 x27 x28 x29 x30 x31 x32 x33 x34 x35 x36 x37 x38 x39 x40 x41 x42 x43 x44 x45 x46 x47 x48 x49 x50 x51 x52 x53 x54 x55 x56 x57 x58 x59 x60 x61 x62 x63 x64 x65 x66 x67 x68 x69 x70 x71 x72 x73 x74 x75 x76 x77 x78 x79 x80 x81 x82 x83 x84 x85 x86 x87 x88 x89 x90 x91 x92 x93 x94 x95 x96 x97 x98 x99 x100 x101 x102 x103 x104 x105 x106 x107 x108 x109 x110 x111 x112 x113 x114 x115 x116 x117 x118 x119 x120 x121 x122 x123 x124 x125 x126 x127 x128 x129 x130 x131 x132 x133 x134 x135 x136 x137 x138 x139 x140 x141 x142 x143 x144 x145 x146 x147 x148 x149 x150 x151 x152 x153 x154 x155 x156 x157 x158 x159 x160 : Value} {K' : Act → World → Prop} {Q' : Exit → Act → World → Prop}
    (hlen : len ≤ 40) (hlt : k < len) (hs : s < k)
    (k0 : w7.cell? ⟨b, off + k * 34, none⟩ = some (.int .i64 4)) (k3 : w7.cell? ⟨b, off + k * 34 + 3, none⟩ = some (.int .i64 whk)) (s3 : w7.cell? ⟨b, off + s * 34 + 3, none⟩ = some (.int .i64 whk))
    (k7 : w7.cell? ⟨b, off + k * 34 + 7, none⟩ = some (.int .i64 sidk)) (s7 : w7.cell? ⟨b, off + s * 34 + 7, none⟩ = some (.int .i64 sidk))
    (HDs8 : Hid (∀ j u, DS.row.toArray[j]? = some u → w7.cell? ((⟨b, off + s * 34 + 8, none⟩ : Addr).add j) = some u)) (HDk8 : Hid (∀ j u, DK.row.toArray[j]? = some u → w7.cell? ((⟨b, off + k * 34 + 8, none⟩ : Addr).add j) = some u))
    (HB7 : Hid (Below w.heap.size w w7)) {c : Code} (hc : c = agmReg8)
    (hK : ∀ a' w', (∃ u18 u19 u20 u21 u22 u23 u24 u25 u26 u27 u28 u29 u30 u31 u32 u33 u34 u35 u36 u37 u38 u39 u40 u41 u42 u43 u44 u45 u46 u47 u48 u49 u50 u51 u52 u53 u54 u55 u56 u57 u58 u59 u60 u61 u62 u63 u64 u65 u66 u67 u68 u69 u70 u71 u72 u73 u74 u75 u76 u77 u78 u79 u80 u81 u82 u83 u84 u85 u86 u87 u88 u89 u90 u91 u92 u93 u94 u95 u96 u97 u98 u99 u100 u101 u102 u103 u104 u105 u106 u107 u108 u109 u110 u111 u112 u113 u114 u115 u116 u117 u118 u119 u120 u121 u122 u123 u124 u125 u126 u127 u128 u129 u130 u131 u132 u133 u134 u135 u136 u137 u138 u139 u140 u141 u142 u143 u144 u145 u146 u147 u148 u149 u150 u151 u152 u153 u154 u155 u156 u157 u158 u159 : Value, (u119 = .bool false ∧ Hid (Below w.heap.size w w')) ∧ a' = ⟨(.slice (some ⟨b, off, none⟩) len cap :: x1 :: x2 :: .int .i64 (k : Int) :: .int .i64 (s : Int) :: .bool true :: x6 :: x7 :: x8 :: x9 :: x10 :: x11 :: x12 :: x13 :: x14 :: x15 :: x16 :: x17 :: u18 :: u19 :: u20 :: u21 :: u22 :: u23 :: u24 :: u25 :: u26 :: u27 :: u28 :: u29 :: u30 :: u31 :: u32 :: u33 :: u34 :: u35 :: u36 :: u37 :: u38 :: u39 :: u40 :: u41 :: u42 :: u43 :: u44 :: u45 :: u46 :: u47 :: u48 :: u49 :: u50 :: u51 :: u52 :: u53 :: u54 :: u55 :: u56 :: u57 :: u58 :: u59 :: u60 :: u61 :: u62 :: u63 :: u64 :: u65 :: u66 :: u67 :: u68 :: u69 :: u70 :: u71 :: u72 :: u73 :: u74 :: u75 :: u76 :: u77 :: u78 :: u79 :: u80 :: u81 :: u82 :: u83 :: u84 :: u85 :: u86 :: u87 :: u88 :: u89 :: u90 :: u91 :: u92 :: u93 :: u94 :: u95 :: u96 :: u97 :: u98 :: u99 :: u100 :: u101 :: u102 :: u103 :: u104 :: u105 :: u106 :: u107 :: u108 :: u109 :: u110 :: u111 :: u112 :: u113 :: u114 :: u115 :: u116 :: u117 :: u118 :: u119 :: u120 :: u121 :: u122 :: u123 :: u124 :: u125 :: u126 :: u127 :: u128 :: u129 :: u130 :: u131 :: u132 :: u133 :: u134 :: u135 :: u136 :: u137 :: u138 :: u139 :: u140 :: u141 :: u142 :: u143 :: u144 :: u145 :: u146 :: u147 :: u148 :: u149 :: u150 :: u151 :: u152 :: u153 :: u154 :: u155 :: u156 :: u157 :: u158 :: u159 :: x160 :: []).toArray, []⟩) → K' a' w') :
    Code.wp Try.prog c (Exit.then K' Q') ⟨(.slice (some ⟨b, off, none⟩) len cap :: x1 :: x2 :: .int .i64 (k : Int) :: .int .i64 (s : Int) :: .bool true :: x6 :: x7 :: x8 :: x9 :: x10 :: x11 :: x12 :: x13 :: x14 :: x15 :: x16 :: x17 :: x18 :: x19 :: x20 :: x21 :: x22 :: x23 :: x24 :: x25 :: x26 :: x27 :: x28 :: x29 :: x30 :: x31 :: x32 :: x33 :: x34 :: x35 :: x36 :: x37 :: x38 :: x39 :: x40 :: x41 :: x42 :: x43 :: x44 :: x45 :: x46 :: x47 :: x48 :: x49 :: x50 :: x51 :: x52 :: x53 :: x54 :: x55 :: x56 :: x57 :: x58 :: x59 :: x60 :: x61 :: x62 :: x63 :: x64 :: x65 :: x66 :: x67 :: x68 :: x69 :: x70 :: x71 :: x72 :: x73 :: x74 :: x75 :: x76 :: x77 :: x78 :: x79 :: x80 :: x81 :: x82 :: x83 :: x84 :: x85 :: x86 :: x87 :: x88 :: x89 :: x90 :: x91 :: x92 :: x93 :: x94 :: x95 :: x96 :: x97 :: x98 :: x99 :: x100 :: x101 :: x102 :: x103 :: x104 :: x105 :: x106 :: x107 :: x108 :: x109 :: x110 :: x111 :: x112 :: x113 :: x114 :: x115 :: x116 :: x117 :: x118 :: x119 :: x120 :: x121 :: x122 :: x123 :: x124 :: x125 :: x126 :: x127 :: x128 :: x129 :: x130 :: x131 :: x132 :: x133 :: x134 :: x135 :: x136 :: x137 :: x138 :: x139 :: x140 :: x141 :: x142 :: x143 :: x144 :: x145 :: x146 :: x147 :: x148 :: x149 :: x150 :: x151 :: x152 :: x153 :: x154 :: x155 :: x156 :: x157 :: x158 :: x159 :: x160 :: []).toArray, []⟩ w7 := by
  subst hc
  conv => arg 2; whnf
  have HEa : Hid (∀ (d e : DoV) (W : World), (Op.equalIn 10000 35 (.agg d.row.toArray) (.agg e.row.toArray)).run Try.prog W = .ok (decide (d = e)) W) := fun d e => doneEq31 d e
  have HDs : Hid (∀ d : DoV, d.row.toArray.size = 26) := fun d => rfl
  have hki : (k : Int) < (len : Int) := by omega
  have hsl : (s : Int) < (len : Int) := by omega
  have q1 : decide ((s : Int) < 0) = false := decide_eq_false (by omega)
  have q2 : decide ((s : Int) ≥ (k : Int)) = false := decide_eq_false (by omega)
  have q2n : decide (k ≤ s) = false := decide_eq_false (by omega)
  have q2i : decide ((k : Int) ≤ (s : Int)) = false := decide_eq_false (by omega)
  have HK := Lib.hid hK
  clear hK
  go_cut [119] from 18 to 159 (fun u wx => u = .bool false ∧ Hid (Below w.heap.size w wx))
  case rest =>
    refine HK.out _ _ ⟨_, _, _, _, _, _, _, _, _, _, _, _, _, _, _, _, _, _, _, _, _, _, _, _, _, _, _, _, _, _, _, _, _, _, _, _, _, _, _, _, _, _, _, _, _, _, _, _, _, _, _, _, _, _, _, _, _, _, _, _, _, _, _, _, _, _, _, _, _, _, _, _, _, _, _, _, _, _, _, _, _, _, _, _, _, _, _, _, _, _, _, _, _, _, _, _, _, _, _, _, _, _, _, _, _, _, _, _, _, _, _, _, _, _, _, _, _, _, _, _, _, _, _, _, _, _, _, _, _, _, _, _, _, _, _, _, _, _, _, _, _, _, hcut, rfl⟩
  case first =>
    clear HK
    obtain ⟨bd, hbd⟩ : ∃ bd, decide (DS = DK) = bd := ⟨_, rfl⟩
    have HEq := Lib.hid (fun W => (HEa.out DS DK W).trans (by rw [hbd]))
    clear hbd
    refine wp_region_quiet_gen (by kernel_rfl) (by kernel_rfl) ?_
    intro O hO
    refine wpQuiet_plain rfl (fun K hK => ?_)
    go_simp
    refine hK _ ?_
    clear hK K
    refine wpQuiet_plain rfl (fun K hK => ?_)
    go_simp
    refine hK _ ?_
    clear hK K
    refine wpQuiet_plain rfl (fun K hK => ?_)
    go_simp
    refine hK _ ?_
    clear hK K
    refine wpQuiet_take (by rw [hO]; kernel_rfl) (fun K hK => ?_)
    go_simp
    refine hK _ ?_
    clear hK K
    refine wpQuiet_take (by rw [hO]; kernel_rfl) (fun K hK => ?_)
    go_simp
    refine hK _ ?_
    clear hK K
    refine wpQuiet_plain rfl (fun K hK => ?_)
    go_simp
    refine hK _ ?_
    clear hK K
    refine wpQuiet_plain rfl (fun K hK => ?_)
    go_simp
    refine hK _ ?_
    clear hK K
    refine wpQuiet_take (by rw [hO]; kernel_rfl) (fun K hK => ?_)
    go_simp
    refine hK _ ?_
    clear hK K
    refine wpQuiet_take (by rw [hO]; kernel_rfl) (fun K hK => ?_)
    go_simp
    refine hK _ ?_
    clear hK K
    refine wpQuiet_take (by rw [hO]; kernel_rfl) (fun K hK => ?_)
    go_simp
    refine hK _ ?_
    clear hK K
    refine wpQuiet_plain rfl (fun K hK => ?_)
    go_simp
    refine hK _ ?_
    clear hK K
    refine wpQuiet_plain rfl (fun K hK => ?_)
    go_simp
    refine hK _ ?_
    clear hK K
    refine wpQuiet_take (by rw [hO]; kernel_rfl) (fun K hK => ?_)
    go_simp
    refine hK _ ?_
    clear hK K
    refine wpQuiet_take (by rw [hO]; kernel_rfl) (fun K hK => ?_)
    go_simp
    refine hK _ ?_
    clear hK K
    refine wpQuiet_take (by rw [hO]; kernel_rfl) (fun K hK => ?_)
    go_simp
    refine hK _ ?_
    clear hK K
    refine wpQuiet_take (by rw [hO]; kernel_rfl) (fun K hK => ?_)
    go_simp
    refine hK _ ?_
    clear hK K
    refine wpQuiet_take (by rw [hO]; kernel_rfl) (fun K hK => ?_)
    go_simp
    refine hK _ ?_
    clear hK K
    refine wpQuiet_take (by rw [hO]; kernel_rfl) (fun K hK => ?_)
    go_simp
    refine hK _ ?_
    clear hK K
    refine wpQuiet_take (by rw [hO]; kernel_rfl) (fun K hK => ?_)
    go_simp
    refine hK _ ?_
    clear hK K
    refine wpQuiet_take (by rw [hO]; kernel_rfl) (fun K hK => ?_)
    go_simp
    refine hK _ ?_
    clear hK K
    refine wpQuiet_take (by rw [hO]; kernel_rfl) (fun K hK => ?_)
    go_simp
    refine hK _ ?_
    clear hK K
    refine wpQuiet_take (by rw [hO]; kernel_rfl) (fun K hK => ?_)
    go_simp
    refine hK _ ?_
    clear hK K
    refine wpQuiet_take (by rw [hO]; kernel_rfl) (fun K hK => ?_)
    go_simp
    refine hK _ ?_
    clear hK K
    refine wpQuiet_plain rfl (fun K hK => ?_)
    go_simp
    refine hK _ ?_
    clear hK K
    refine wpQuiet_plain rfl (fun K hK => ?_)
    go_simp
    refine hK _ ?_
    clear hK K
    refine wpQuiet_take (by rw [hO]; kernel_rfl) (fun K hK => ?_)
    go_simp
    refine hK _ ?_
    clear hK K
    refine wpQuiet_take (by rw [hO]; kernel_rfl) (fun K hK => ?_)
    go_simp
    refine hK _ ?_
    clear hK K
    refine wpQuiet_take (by rw [hO]; kernel_rfl) (fun K hK => ?_)
    go_simp
    refine hK _ ?_
    clear hK K
    refine wpQuiet_take (by rw [hO]; kernel_rfl) (fun K hK => ?_)
    go_simp
    refine hK _ ?_
    clear hK K
    refine wpQuiet_load (by rw [hO]; kernel_rfl) 35 _ rfl ⟨b, off + s * 34 + 8, none⟩ rfl DS.row.toArray _ HDs8.out Try.underlying35 rfl (by rw [HDs.out]; exact sizeDone32) ?_
    refine wpQuiet_take (by rw [hO]; kernel_rfl) (fun K hK => ?_)
    go_simp
    refine hK _ ?_
    clear hK K
    refine wpQuiet_take (by rw [hO]; kernel_rfl) (fun K hK => ?_)
    go_simp
    refine hK _ ?_
    clear hK K
    refine wpQuiet_take (by rw [hO]; kernel_rfl) (fun K hK => ?_)
    go_simp
    refine hK _ ?_
    clear hK K
    refine wpQuiet_take (by rw [hO]; kernel_rfl) (fun K hK => ?_)
    go_simp
    refine hK _ ?_
    clear hK K
    refine wpQuiet_load (by rw [hO]; kernel_rfl) 35 _ rfl ⟨b, off + k * 34 + 8, none⟩ rfl DK.row.toArray _ HDk8.out Try.underlying35 rfl (by rw [HDs.out]; exact sizeDone32) ?_
    refine wpQuiet_neq (by rw [hO]; kernel_rfl) 35 _ _ _ rfl _ _ rfl rfl guardDone32 bd HEq.out ?_
    refine wpQuiet_take (by rw [hO]; kernel_rfl) (fun K hK => ?_)
    go_simp
    refine hK _ ?_
    clear hK K
    cases bd with
    | true =>
      refine wpQuiet_skip (by rw [hO]; kernel_rfl) ?_
      refine wpQuiet_skip (by rw [hO]; kernel_rfl) ?_
      refine wpQuiet_skip (by rw [hO]; kernel_rfl) ?_
      refine wpQuiet_skip (by rw [hO]; kernel_rfl) ?_
      refine wpQuiet_skip (by rw [hO]; kernel_rfl) ?_
      refine wpQuiet_skip (by rw [hO]; kernel_rfl) ?_
      refine wpQuiet_take (by rw [hO]; kernel_rfl) (fun K hK => ?_)
      go_simp
      refine hK _ ?_
      clear hK K
      refine wpQuiet_plain rfl (fun K hK => ?_)
      go_simp
      refine hK _ ?_
      clear hK K
      refine wpQuiet_plain rfl (fun K hK => ?_)
      go_simp
      refine hK _ ?_
      clear hK K
      refine wpQuiet_take (by rw [hO]; kernel_rfl) (fun K hK => ?_)
      go_simp
      refine hK _ ?_
      clear hK K
      refine wpQuiet_take (by rw [hO]; kernel_rfl) (fun K hK => ?_)
      go_simp
      refine hK _ ?_
      clear hK K
      refine wpQuiet_take (by rw [hO]; kernel_rfl) (fun K hK => ?_)
      go_simp
      refine hK _ ?_
      clear hK K
      refine wpQuiet_take (by rw [hO]; kernel_rfl) (fun K hK => ?_)
      go_simp
      refine hK _ ?_
      clear hK K
      refine wpQuiet_take (by rw [hO]; kernel_rfl) (fun K hK => ?_)
      go_simp
      refine hK _ ?_
      clear hK K
      refine wpQuiet_take (by rw [hO]; kernel_rfl) (fun K hK => ?_)
      go_simp
      refine hK _ ?_
      clear hK K
      refine wpQuiet_take (by rw [hO]; kernel_rfl) (fun K hK => ?_)
      go_simp
      refine hK _ ?_
      clear hK K
      refine wpQuiet_take (by rw [hO]; kernel_rfl) (fun K hK => ?_)
      go_simp
      refine hK _ ?_
      clear hK K
      refine wpQuiet_take (by rw [hO]; kernel_rfl) (fun K hK => ?_)
      go_simp
      refine hK _ ?_
      clear hK K
      refine wpQuiet_take (by rw [hO]; kernel_rfl) (fun K hK => ?_)
      go_simp
      refine hK _ ?_
      clear hK K
      refine wpQuiet_take (by rw [hO]; kernel_rfl) (fun K hK => ?_)
      go_simp
      refine hK _ ?_
      clear hK K
      refine wpQuiet_take (by rw [hO]; kernel_rfl) (fun K hK => ?_)
      go_simp
      refine hK _ ?_
      clear hK K
      refine wpQuiet_skip (by rw [hO]; kernel_rfl) ?_
      refine wpQuiet_skip (by rw [hO]; kernel_rfl) ?_
      refine wpQuiet_skip (by rw [hO]; kernel_rfl) ?_
      refine wpQuiet_skip (by rw [hO]; kernel_rfl) ?_
      refine wpQuiet_skip (by rw [hO]; kernel_rfl) ?_
      refine wpQuiet_skip (by rw [hO]; kernel_rfl) ?_
      refine wpQuiet_take (by rw [hO]; kernel_rfl) (fun K hK => ?_)
      go_simp
      refine hK _ ?_
      clear hK K
      refine wpQuiet_plain rfl (fun K hK => ?_)
      go_simp
      refine hK _ ?_
      clear hK K
      refine wpQuiet_nil ?_
      intro _ hw'
      obtain ⟨nq, hw''⟩ := hw'
      subst hw''
      clear hO O
      go_wp2_with fail
      go_meet
      case rel => exact ⟨rfl, Lib.hid (HB7.out.trans ⟨rfl, rfl, rfl, Nat.le_refl _, fun _ _ => rfl⟩)⟩
    | false =>
      refine wpQuiet_take (by rw [hO]; kernel_rfl) (fun K hK => ?_)
      go_simp
      refine hK _ ?_
      clear hK K
      refine wpQuiet_take (by rw [hO]; kernel_rfl) (fun K hK => ?_)
      go_simp
      refine hK _ ?_
      clear hK K
      refine wpQuiet_take (by rw [hO]; kernel_rfl) (fun K hK => ?_)
      go_simp
      refine hK _ ?_
      clear hK K
      refine wpQuiet_take (by rw [hO]; kernel_rfl) (fun K hK => ?_)
      go_simp
      refine hK _ ?_
      clear hK K
      refine wpQuiet_take (by rw [hO]; kernel_rfl) (fun K hK => ?_)
      go_simp
      refine hK _ ?_
      clear hK K
      refine wpQuiet_take (by rw [hO]; kernel_rfl) (fun K hK => ?_)
      go_simp
      refine hK _ ?_
      clear hK K
      refine wpQuiet_take (by rw [hO]; kernel_rfl) (fun K hK => ?_)
      go_simp
      refine hK _ ?_
      clear hK K
      refine wpQuiet_plain rfl (fun K hK => ?_)
      go_simp
      refine hK _ ?_
      clear hK K
      refine wpQuiet_plain rfl (fun K hK => ?_)
      go_simp
      refine hK _ ?_
      clear hK K
      refine wpQuiet_take (by rw [hO]; kernel_rfl) (fun K hK => ?_)
      go_simp
      refine hK _ ?_
      clear hK K
      refine wpQuiet_take (by rw [hO]; kernel_rfl) (fun K hK => ?_)
      go_simp
      refine hK _ ?_
      clear hK K
      refine wpQuiet_take (by rw [hO]; kernel_rfl) (fun K hK => ?_)
      go_simp
      refine hK _ ?_
      clear hK K
      refine wpQuiet_take (by rw [hO]; kernel_rfl) (fun K hK => ?_)
      go_simp
      refine hK _ ?_
      clear hK K
      refine wpQuiet_take (by rw [hO]; kernel_rfl) (fun K hK => ?_)
      go_simp
      refine hK _ ?_
      clear hK K
      refine wpQuiet_take (by rw [hO]; kernel_rfl) (fun K hK => ?_)
      go_simp
      refine hK _ ?_
      clear hK K
      refine wpQuiet_take (by rw [hO]; kernel_rfl) (fun K hK => ?_)
      go_simp
      refine hK _ ?_
      clear hK K
      refine wpQuiet_take (by rw [hO]; kernel_rfl) (fun K hK => ?_)
      go_simp
      refine hK _ ?_
      clear hK K
      refine wpQuiet_take (by rw [hO]; kernel_rfl) (fun K hK => ?_)
      go_simp
      refine hK _ ?_
      clear hK K
      refine wpQuiet_take (by rw [hO]; kernel_rfl) (fun K hK => ?_)
      go_simp
      refine hK _ ?_
      clear hK K
      refine wpQuiet_take (by rw [hO]; kernel_rfl) (fun K hK => ?_)
      go_simp
      refine hK _ ?_
      clear hK K
      refine wpQuiet_take (by rw [hO]; kernel_rfl) (fun K hK => ?_)
      go_simp
      refine hK _ ?_
      clear hK K
      refine wpQuiet_skip (by rw [hO]; kernel_rfl) ?_
      refine wpQuiet_skip (by rw [hO]; kernel_rfl) ?_
      refine wpQuiet_skip (by rw [hO]; kernel_rfl) ?_
      refine wpQuiet_skip (by rw [hO]; kernel_rfl) ?_
      refine wpQuiet_skip (by rw [hO]; kernel_rfl) ?_
      refine wpQuiet_skip (by rw [hO]; kernel_rfl) ?_
      refine wpQuiet_take (by rw [hO]; kernel_rfl) (fun K hK => ?_)
      go_simp
      refine hK _ ?_
      clear hK K
      refine wpQuiet_plain rfl (fun K hK => ?_)
      go_simp
      refine hK _ ?_
      clear hK K
      refine wpQuiet_nil ?_
      intro _ hw'
      obtain ⟨nq, hw''⟩ := hw'
      subst hw''
      clear hO O
      go_wp2_with fail
      go_meet
      case rel => exact ⟨rfl, Lib.hid (HB7.out.trans ⟨rfl, rfl, rfl, Nat.le_refl _, fun _ _ => rfl⟩)⟩
end Go.Proofs.Ytpkkeeblgbdfdaa
