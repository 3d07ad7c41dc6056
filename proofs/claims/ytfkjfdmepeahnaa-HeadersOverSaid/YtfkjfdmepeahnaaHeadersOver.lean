/-
  HeadersOver: headers that are passed change nothing of what stands behind them: padding of any length, options that are let go, a route at its end, all of a datagram as a part: the law returns true for every input, and its arguments read as before.
  Conditions: none.
-/
import Derived.Test.YtfkjfdmepeahnaaLwc
import Derived.Test.YtfkjfdmepeahnaaOvrC
namespace Go.Proofs.Ytfkjfdmepeahnaa.headersOver
set_option maxRecDepth 100000
open Go.ChangeShapes Go.WideShapes Go.ChangeAt Go.RowKit Go.Proofs.Ytfkjfdmepeahnaa.Hd Ops

theorem number_no (n : Int) (w : World) (h : ¬ (n = 0 ∨ n = 43 ∨ n = 44 ∨ n = 59 ∨ n = 60)) : Calls Try.prog 24 #[.int .u8 n] w fun e w' => e = .returned (.bool false) ∧ w = w' := by
  have d0 : (n == 0) = false := by simp; omega
  have d1 : (n == 43) = false := by simp; omega
  have d2 : (n == 44) = false := by simp; omega
  have d3 : (n == 59) = false := by simp; omega
  have d4 : (n == 60) = false := by simp; omega
  clear h
  go_enter Try.func24, Try.ntmps24
  go_wp2_with fail
  go_ret
  exact ⟨rfl, rfl⟩
theorem number_yes (n : Int) (w : World) (h : n = 0 ∨ n = 43 ∨ n = 44 ∨ n = 59 ∨ n = 60) : Calls Try.prog 24 #[.int .u8 n] w fun e w' => e = .returned (.bool true) ∧ w = w' := by
  rcases h with rfl | rfl | rfl | rfl | rfl
  · go_enter Try.func24, Try.ntmps24
    go_wp2_with fail
    go_ret
    exact ⟨rfl, rfl⟩
  · go_enter Try.func24, Try.ntmps24
    go_wp2_with fail
    go_ret
    exact ⟨rfl, rfl⟩
  · go_enter Try.func24, Try.ntmps24
    go_wp2_with fail
    go_ret
    exact ⟨rfl, rfl⟩
  · go_enter Try.func24, Try.ntmps24
    go_wp2_with fail
    go_ret
    exact ⟨rfl, rfl⟩
  · go_enter Try.func24, Try.ntmps24
    go_wp2_with fail
    go_ret
    exact ⟨rfl, rfl⟩
/-- what the loop holds -/
structure Sofar (w wr : World) (mc : Bool) (R : Tl) (first : Int) (v : Value) (bs : List Int) (k : Nat) : Prop where
  f : 0 ≤ first ∧ first ≤ 255
  own : Own wr w.heap.size v bs
  below : Below w.heap.size w wr
  byt : Byt bs
  len : bs.length ≤ k
  pas : Passes mc R first bs
/-- one more header ahead of what there is -/
theorem one_more {w wr u : World} {mc : Bool} {R : Tl} {first first' : Int} {v : Value} {bs hs : List Int} {g k k' n : Nat} (S : Sofar w wr mc R first v bs k) (Y : Lay wr u [(g, 5, bv hs)]) (hn : hs.length = n) (hz : Byt hs) (hk : n ≤ 40) (hkk : k + 40 ≤ k') (hkm : k' ≤ 100000) (hf : 0 ≤ first' ∧ first' ≤ 255) (hp : Passes mc R first' (hs ++ bs)) :
    ∃ v' u', (Builtin.append_ #[28, 28] 28 #[.slice (some ⟨g, 0, none⟩) n n, v]).run Try.prog u = .ok v' u' ∧ Sofar w u' mc R first' v' (hs ++ bs) k' := by
  have G := Grow.whole Y hn (by omega) (fun _ h => by cases h)
  obtain ⟨v', u', h, G'⟩ := G.append (S.own.slc.keep Y.below) (by have := S.len; omega) 28
  refine ⟨v', u', h, hf, (G'.own.mono (Nat.le_trans S.below.size (Y.own _ mem0))), S.below.trans (G'.lay.below.mono S.below.size), fun z hz' => ?_, by have := S.len; simp; omega, hp⟩
  rcases List.mem_append.1 hz' with h | h
  · exact hz z h
  · exact S.byt z h
theorem zeros_four (M : Nat) : (zeros (M + 4)).toList = [.int .u8 0, .int .u8 0, .int .u8 0, .int .u8 0] ++ bv (List.replicate M 0) := by
  rw [zeros_list]
  simp [List.replicate_succ, bv]
theorem byt_hdr {a b c d : Int} (M : Nat) (ha : 0 ≤ a ∧ a ≤ 255) (hb : 0 ≤ b ∧ b ≤ 255) (hc : 0 ≤ c ∧ c ≤ 255) (hd : 0 ≤ d ∧ d ≤ 255) : Byt ([a, b, c, d] ++ List.replicate M 0) := fun z hz => by
  simp only [List.mem_append, List.mem_cons, List.not_mem_nil, or_false, List.mem_replicate] at hz
  omega

set_option linter.unusedSimpArgs false in
set_option maxHeartbeats 16000000 in
theorem walk_nil (A : Option Addr) (n c : Nat) (zs : List Int) (nx : Int) (m d : Nat) (ls : List Int) (w : World) (hs : Slc w (.slice A n c) zs) (hz : Byt zs) (hl : Slc w (.slice none m d) ls) (hlz : Byt ls) (h1 : n ≤ 1000) (h2 : m ≤ 20) (hx : 0 ≤ nx ∧ nx ≤ 255) (hn : ¬ (nx = 0 ∨ nx = 43 ∨ nx = 44 ∨ nx = 59 ∨ nx = 60)) :
    Calls Try.prog 7 #[.slice A n c, .int .u8 nx, .slice none m d] w fun e w' => e = .returned (.bool true) ∧ Below w.heap.size w w' := by
  have hzl := (slc_of hs).1
  obtain ⟨v1, w1, ha1, G1⟩ := (Grow.begin (Lay.begin w)).append hs (by simp; omega) 28
  have S1 := veil (show Sofar w w1 true { last := nx, rest := zs } nx v1 zs 1000 from ⟨hx, by simpa using G1.own, G1.lay.below, hz, by omega, passes_end hn⟩)
  have KN := veil (number_no nx w hn)
  have HS := veil hs
  have HL := veil hl
  have HLZ := veil hlz
  have HZL := veil hzl
  have i1 : ¬ (1000 : Int) < (n : Int) := by omega
  have i2 : ¬ (20 : Int) < (m : Int) := by omega
  have H1 := veil ha1
  have E : ∀ u, (binOp .eql 28 (.slice none m d) (.slice none 0 0)).run Try.prog u = .ok (.bool true) u := fun u => by kernel_rfl
  clear ha1 G1 hs hz hl hlz hzl hn hx
  go_enter Try.func7, Try.ntmps7
  go_wp2_with fail
  refine (KN.out).mono ?_
  rintro e w2 ⟨rfl, rfl⟩
  clear KN
  go_wp2_with (at_builtin; refine wpList_append_run rfl (.tmp 31) (.tmp 32) rfl rfl rfl H1.out ?_)
  clear H1
  go_loopw [7, 8, 9] (fun s7 s8 s9 wr => ∃ (j : Nat) (first : Int) (bs : List Int), j ≤ m ∧ s9 = .int .i64 j ∧ s8 = .int .u8 first ∧ Hid (Sofar w wr true { last := nx, rest := zs } first s7 bs (1000 + 40 * j))) (fun _ _ i _ => m - (intOf i).toNat)
  case atStart => exact ⟨0, nx, zs, Nat.zero_le _, rfl, rfl, S1⟩
  case round =>
    rename_i s7 wr
    obtain ⟨j, first, bs, hj, rfl, rfl, VS⟩ := hrel
    clear S1
    by_cases hlt : j < m
    · have ij : (j : Int) < (m : Int) := by omega
      have hll := (slc_of HL.out).1
      have hx := HLZ.out.at_ j
      obtain ⟨a, ha, ca⟩ := ((slc_rd HL.out).1.keep VS.out.below) j (by omega)
      cases ha
    · have ij : ¬ (j : Int) < (m : Int) := by omega
      obtain rfl : j = m := by omega
      obtain ⟨A7, c7, e7, _, _⟩ := VS.out.own.slc.slice
      subst e7
      have K1 := veil (answers (next := first) (zs := bs) (A := A7) (n := bs.length) (cc := c7) (p := 40) (mc := true) (w := wr) (l := nx) (rs := zs) (al := false) (c := 0) (q := 0) (er := 0) VS.out.f (slc_rd VS.out.own.slc).1 rfl VS.out.byt (by have := VS.out.len; omega) (by omega) (VS.out.pas _ _ _))
      generalize bs.length = nb at *
      go_wp2_with fail
      refine (K1.out).mono ?_
      rintro e w4 ⟨A4, n4, rfl, hr4, hn4, q4⟩
      obtain rfl : n4 = n := hn4.trans HZL.out
      have bz : Below w4.heap.size w4 ((w4.alloc fg0).alloc fl0) := (below_new w4 fg0).trans ((below_new _ _).mono (by simp))
      have Q4 := VS.out.below.trans ((q4.trans (bz.mono q4.size)).mono VS.out.below.size)
      have S := veil (sameBytes_eq A4 A n4 n4 c zs ((w4.alloc fg0).alloc fl0) HZL.out (by unfold maxLen; omega) ((slc_rd (rest_slc hr4)).1.keep bz) (slc_rd (HS.out.keep Q4)).1)
      have Y4 := ((((Lay.begin w).keep VS.out.below).keep q4).newA #[.bool false, .int .u32 0, .int .u16 0, .bool false] 27 (g := w4.heap.size) rfl).newA #[.int .u8 0, .int .u32 0] 45 (g := w4.heap.size + 1) (by simp)
      have V4 := veil Y4
      clear K1 hr4 hn4 q4 bz Q4 Y4 VS
      go_wp2_with fail
      refine (S.out).mono ?_
      rintro e w5 ⟨rfl, st⟩
      have Y5 := V4.out.still st
      have x0 : w5.cell? ⟨w4.heap.size, 0, none⟩ = some (.bool false) := Y5.look mem1 rfl
      have L : Hid (∀ v, v = Value.agg #[.int .u8 0, .int .u32 0] → (Instr.loadAt 45 (.pointer (some ⟨w4.heap.size + 1, 0, none⟩))).run Try.prog w5 = .ok v w5) := fun v hv => by
        subst hv
        exact Y5.load mem0 (part_all _) Try.underlying45 rfl (sizeFl 0 0)
      have Q5 := veil Y5.below
      clear S st Y5 V4
      go_wp2_with (refine wpList_load_of rfl (.tmp 16) rfl rfl (L.out _ rfl) ?_)
      refine (lives_true _).mono ?_
      rintro e w9 ⟨rfl, q9⟩
      go_wp2_with fail
      go_ret
      exact ⟨rfl, Q5.out.trans (q9.mono Q5.out.size)⟩

set_option linter.unusedSimpArgs false in
set_option maxHeartbeats 16000000 in
theorem walk_some (A : Option Addr) (n c : Nat) (zs : List Int) (nx : Int) (b0 : Addr) (m d : Nat) (ls : List Int) (w : World) (hs : Slc w (.slice A n c) zs) (hz : Byt zs) (hl : Slc w (.slice (some b0) m d) ls) (hlz : Byt ls) (h1 : n ≤ 1000) (h2 : m ≤ 20) (hx : 0 ≤ nx ∧ nx ≤ 255) (hn : ¬ (nx = 0 ∨ nx = 43 ∨ nx = 44 ∨ nx = 59 ∨ nx = 60)) :
    Calls Try.prog 7 #[.slice A n c, .int .u8 nx, .slice (some b0) m d] w fun e w' => e = .returned (.bool true) ∧ Below w.heap.size w w' := by
  have hzl := (slc_of hs).1
  obtain ⟨v1, w1, ha1, G1⟩ := (Grow.begin (Lay.begin w)).append hs (by simp; omega) 28
  have S1 := veil (show Sofar w w1 false { last := nx, rest := zs } nx v1 zs 1000 from ⟨hx, by simpa using G1.own, G1.lay.below, hz, by omega, passes_end hn⟩)
  have KN := veil (number_no nx w hn)
  have HS := veil hs
  have HL := veil hl
  have HLZ := veil hlz
  have HZL := veil hzl
  have i1 : ¬ (1000 : Int) < (n : Int) := by omega
  have i2 : ¬ (20 : Int) < (m : Int) := by omega
  have H1 := veil ha1
  have E : ∀ u, (binOp .eql 28 (.slice (some b0) m d) (.slice none 0 0)).run Try.prog u = .ok (.bool false) u := fun u => by kernel_rfl
  clear ha1 G1 hs hz hl hlz hzl hn hx
  go_enter Try.func7, Try.ntmps7
  go_wp2_with fail
  refine (KN.out).mono ?_
  rintro e w2 ⟨rfl, rfl⟩
  clear KN
  go_wp2_with (at_builtin; refine wpList_append_run rfl (.tmp 31) (.tmp 32) rfl rfl rfl H1.out ?_)
  clear H1
  go_loopw [7, 8, 9] (fun s7 s8 s9 wr => ∃ (j : Nat) (first : Int) (bs : List Int), j ≤ m ∧ s9 = .int .i64 j ∧ s8 = .int .u8 first ∧ Hid (Sofar w wr false { last := nx, rest := zs } first s7 bs (1000 + 40 * j))) (fun _ _ i _ => m - (intOf i).toNat)
  case atStart => exact ⟨0, nx, zs, Nat.zero_le _, rfl, rfl, S1⟩
  case round =>
    rename_i s7 wr
    obtain ⟨j, first, bs, hj, rfl, rfl, VS⟩ := hrel
    clear S1
    by_cases hlt : j < m
    · have ij : (j : Int) < (m : Int) := by omega
      have hll := (slc_of HL.out).1
      have hx := HLZ.out.at_ j
      obtain ⟨a, ha, ca⟩ := ((slc_rd HL.out).1.keep VS.out.below) j (by omega)
      have ha' := ha
      injection ha' with ha'
      subst ha'
      generalize ls.getD j 0 = x at *
      obtain ⟨lg, hlg⟩ : ∃ lg : Nat, x / 4 % 5 = lg := ⟨(x / 4 % 5).toNat, by omega⟩
      obtain ⟨M, hM⟩ : ∃ M, M + 4 = 8 * (lg + 1) := ⟨8 * lg + 4, by omega⟩
      have hlg4 : lg ≤ 4 := by omega
      obtain ⟨gh, hgh⟩ : ∃ gh, wr.heap.size = gh := ⟨_, rfl⟩
      have HM := run_make_u8 (M + 4) (by omega) wr
      have Y := (Lay.begin wr).newA (zeros (M + 4)) 5 (g := wr.heap.size) rfl
      rw [zeros_four] at Y
      obtain ⟨u0, hu0⟩ : ∃ u0, wr.alloc (.cells (zeros (M + 4)) 5) = u0 := ⟨_, rfl⟩
      rw [hu0, hgh] at HM Y
      have c0 : u0.cell? ⟨gh, 0, none⟩ = some (.int .u8 0) := Y.look mem0 rfl
      have c1 : u0.cell? ⟨gh, 1, none⟩ = some (.int .u8 0) := Y.look mem0 rfl
      have c2 : u0.cell? ⟨gh, 2, none⟩ = some (.int .u8 0) := Y.look mem0 rfl
      have c3 : u0.cell? ⟨gh, 3, none⟩ = some (.int .u8 0) := Y.look mem0 rfl
      have f0 := Y.free mem0 0
      have f1 := Y.free mem0 1
      have f2 := Y.free mem0 2
      have f3 := Y.free mem0 3
      have Y2 : Lay wr ((u0.setCell ⟨gh, 0, none⟩ (.int .u8 first)).setCell ⟨gh, 1, none⟩ (.int .u8 lg)) [(gh, 5, bv ([first, (lg : Int), 0, 0] ++ List.replicate M 0))] := (Y.cell 0 rfl 0 (.int .u8 first)).cell 0 rfl 1 (.int .u8 lg)
      have ca2 : ((u0.setCell ⟨gh, 0, none⟩ (.int .u8 first)).setCell ⟨gh, 1, none⟩ (.int .u8 lg)).cell? (b0.add j) = some (.int .u8 x) := (Y2.below.cell (block_lt_of_cell ca)).trans ca
      have ff := VS.out.f
      have VFF := veil ff
      have VM := veil hM
      have VLG := veil hlg
      have VX := veil hx
      have VY2 := veil Y2
      replace HM := veil HM
      have iN : ((M + 4 : Nat) : Int) = 8 + 8 * (lg : Int) := by omega
      obtain ⟨N, hN⟩ : ∃ N, M + 4 = N := ⟨_, rfl⟩
      rw [hN] at iN HM
      have e8 : 8 + 8 * (lg : Int) = (N : Int) := iN.symm
      have q1 : x.tdiv 4 = x / 4 := Int.tdiv_eq_ediv_of_nonneg hx.1
      have q2 : (x / 4).tmod 5 = (lg : Int) := by rw [Int.tmod_eq_emod_of_nonneg (by omega)]; exact hlg
      have q3 : IntKind.i64.wrap (lg : Int) = (lg : Int) := by rw [IntKind.wrap_i64]; omega
      have q4 : IntKind.u8.wrap (lg : Int) = (lg : Int) := by rw [IntKind.wrap_u8]; omega
      have q5 : IntKind.i64.wrap (8 * (lg : Int)) = 8 * (lg : Int) := by rw [IntKind.wrap_i64]; omega
      have q6 : IntKind.i64.wrap (8 + 8 * (lg : Int)) = (N : Int) := by rw [IntKind.wrap_i64]; omega
      have q7 : IntKind.i64.wrap ((N : Int) - 4) = (N : Int) - 4 := by rw [IntKind.wrap_i64]; omega
      have q8 : IntKind.u8.wrap ((N : Int) - 4) = (M : Int) := by rw [IntKind.wrap_u8]; omega
      have q9 : x / 4 % 5 = (lg : Int) := hlg
      have q10 : x / 4 % 256 = x / 4 := by omega
      have n0 : (0 : Int) < (N : Int) := by omega
      have n1 : (1 : Int) < (N : Int) := by omega
      have n2 : (2 : Int) < (N : Int) := by omega
      have n3 : (3 : Int) < (N : Int) := by omega
      have VN := veil hN
      clear Y Y2 hu0 hgh hM hlg hx ff hN iN hll ha
      rcases (by have := VX.out; omega : x % 4 = 0 ∨ x % 4 = 1 ∨ x % 4 = 2 ∨ x % 4 = 3) with m4 | m4 | m4 | m4
      · skip
        have m4' : x.tmod 4 = 0 := by rw [Int.tmod_eq_emod_of_nonneg VX.out.1]; exact m4
        have Y4 := (VY2.out.cell 0 rfl 2 (.int .u8 1)).cell 0 rfl 3 (.int .u8 M)
        have hb4 : Byt ([first, (lg : Int), 1, (M : Int)] ++ List.replicate M 0) := byt_hdr M VFF.out (by omega) (by omega) (by have := VM.out; omega)
        obtain ⟨v5, w5, h5, S5⟩ := one_more (first' := 60) (k' := 1000 + 40 * (j + 1)) (n := N) VS.out (show Lay wr _ [(gh, 5, bv ([first, (lg : Int), 1, (M : Int)] ++ List.replicate M 0))] from Y4) (by have := VN.out; simp; omega) hb4 (by have := VN.out; have := VM.out; omega) (by omega) (by omega) (by omega) (passes_opt VS.out.pas lg M 1 (by omega) VM.out)
        have H5 := veil h5
        have V5 := veil S5
        clear VS h5 S5 VY2 Y4
        go_wp2_with (first
          | (at_make; refine wpList_value_of rfl (Instr.makeSlice 28 (.int .i64 N) (.int .i64 N)) rfl HM.out ?_)
          | (at_builtin; refine wpList_append_run rfl (.tmp 92) (.tmp 93) rfl rfl rfl H5.out ?_))
        go_roundw
        case rel => exact ⟨j + 1, _, _, by omega, by go_num, rfl, V5⟩
        case measure => simp [intOf]; omega
      · skip
        have m4' : x.tmod 4 = 1 := by rw [Int.tmod_eq_emod_of_nonneg VX.out.1]; exact m4
        have Y4 := (VY2.out.cell 0 rfl 2 (.int .u8 30)).cell 0 rfl 3 (.int .u8 M)
        have hb4 : Byt ([first, (lg : Int), 30, (M : Int)] ++ List.replicate M 0) := byt_hdr M VFF.out (by omega) (by omega) (by have := VM.out; omega)
        obtain ⟨v5, w5, h5, S5⟩ := one_more (first' := 60) (k' := 1000 + 40 * (j + 1)) (n := N) VS.out (show Lay wr _ [(gh, 5, bv ([first, (lg : Int), 30, (M : Int)] ++ List.replicate M 0))] from Y4) (by have := VN.out; simp; omega) hb4 (by have := VN.out; have := VM.out; omega) (by omega) (by omega) (by omega) (passes_opt VS.out.pas lg M 30 (by omega) VM.out)
        have H5 := veil h5
        have V5 := veil S5
        clear VS h5 S5 VY2 Y4
        go_wp2_with (first
          | (at_make; refine wpList_value_of rfl (Instr.makeSlice 28 (.int .i64 N) (.int .i64 N)) rfl HM.out ?_)
          | (at_builtin; refine wpList_append_run rfl (.tmp 92) (.tmp 93) rfl rfl rfl H5.out ?_))
        go_roundw
        case rel => exact ⟨j + 1, _, _, by omega, by go_num, rfl, V5⟩
        case measure => simp [intOf]; omega
      · skip
        have m4' : x.tmod 4 = 2 := by rw [Int.tmod_eq_emod_of_nonneg VX.out.1]; exact m4
        have hb4 : Byt ([first, (lg : Int), 0, 0] ++ List.replicate M 0) := byt_hdr M VFF.out (by omega) (by omega) (by omega)
        obtain ⟨v5, w5, h5, S5⟩ := one_more (first' := 43) (k' := 1000 + 40 * (j + 1)) (n := N) VS.out VY2.out (by have := VN.out; simp; omega) hb4 (by have := VN.out; have := VM.out; omega) (by omega) (by omega) (by omega) (passes_route VS.out.pas lg M VM.out)
        have H5 := veil h5
        have V5 := veil S5
        clear VS h5 S5 VY2
        go_wp2_with (first
          | (at_make; refine wpList_value_of rfl (Instr.makeSlice 28 (.int .i64 N) (.int .i64 N)) rfl HM.out ?_)
          | (at_builtin; refine wpList_append_run rfl (.tmp 92) (.tmp 93) rfl rfl rfl H5.out ?_))
        go_roundw
        case rel => exact ⟨j + 1, _, _, by omega, by go_num, rfl, V5⟩
        case measure => simp [intOf]; omega
      · skip
        have m4' : x.tmod 4 = 3 := by rw [Int.tmod_eq_emod_of_nonneg VX.out.1]; exact m4
        have Y4 := (VY2.out.newA #[.int .u8 first, .int .u8 0, .int .u8 0, .int .u8 0, .int .u8 1, .int .u8 2, .int .u8 3, .int .u8 x] 5 (g := u0.heap.size) (by simp [World.setCell])).sub (L' := [(u0.heap.size, 5, bv [first, 0, 0, 0, 1, 2, 3, x])]) (List.Sublist.cons_cons _ (List.nil_sublist _))
        have hb4 : Byt [first, 0, 0, 0, 1, 2, 3, x] := fun z hz => by have := VFF.out; have := VX.out; simp at hz; omega
        obtain ⟨v5, w5, h5, S5⟩ := one_more (first' := 44) (k' := 1000 + 40 * (j + 1)) (n := 8) VS.out Y4 rfl hb4 (by omega) (by omega) (by omega) (by omega) (passes_part VS.out.pas x)
        have H5 := veil h5
        have V5 := veil S5
        clear VS h5 S5 VY2 Y4
        go_wp2_with (first
          | (at_make; refine wpList_value_of rfl (Instr.makeSlice 28 (.int .i64 N) (.int .i64 N)) rfl HM.out ?_)
          | (at_builtin; refine wpList_append_run rfl (.tmp 92) (.tmp 93) rfl rfl rfl H5.out ?_))
        go_roundw
        case rel => exact ⟨j + 1, _, _, by omega, by go_num, rfl, V5⟩
        case measure => simp [intOf]; omega
    · have ij : ¬ (j : Int) < (m : Int) := by omega
      obtain rfl : j = m := by omega
      obtain ⟨A7, c7, e7, _, _⟩ := VS.out.own.slc.slice
      subst e7
      have K1 := veil (answers (next := first) (zs := bs) (A := A7) (n := bs.length) (cc := c7) (p := 40) (mc := false) (w := wr) (l := nx) (rs := zs) (al := false) (c := 0) (q := 0) (er := 0) VS.out.f (slc_rd VS.out.own.slc).1 rfl VS.out.byt (by have := VS.out.len; omega) (by omega) (VS.out.pas _ _ _))
      generalize bs.length = nb at *
      go_wp2_with fail
      refine (K1.out).mono ?_
      rintro e w4 ⟨A4, n4, rfl, hr4, hn4, q4⟩
      obtain rfl : n4 = n := hn4.trans HZL.out
      have bz : Below w4.heap.size w4 ((w4.alloc fg0).alloc fl0) := (below_new w4 fg0).trans ((below_new _ _).mono (by simp))
      have Q4 := VS.out.below.trans ((q4.trans (bz.mono q4.size)).mono VS.out.below.size)
      have S := veil (sameBytes_eq A4 A n4 n4 c zs ((w4.alloc fg0).alloc fl0) HZL.out (by unfold maxLen; omega) ((slc_rd (rest_slc hr4)).1.keep bz) (slc_rd (HS.out.keep Q4)).1)
      have Y4 := ((((Lay.begin w).keep VS.out.below).keep q4).newA #[.bool false, .int .u32 0, .int .u16 0, .bool false] 27 (g := w4.heap.size) rfl).newA #[.int .u8 0, .int .u32 0] 45 (g := w4.heap.size + 1) (by simp)
      have V4 := veil Y4
      clear K1 hr4 hn4 q4 bz Q4 Y4 VS
      go_wp2_with fail
      refine (S.out).mono ?_
      rintro e w5 ⟨rfl, st⟩
      have Y5 := V4.out.still st
      have x0 : w5.cell? ⟨w4.heap.size, 0, none⟩ = some (.bool false) := Y5.look mem1 rfl
      have L : Hid (∀ v, v = Value.agg #[.int .u8 0, .int .u32 0] → (Instr.loadAt 45 (.pointer (some ⟨w4.heap.size + 1, 0, none⟩))).run Try.prog w5 = .ok v w5) := fun v hv => by
        subst hv
        exact Y5.load mem0 (part_all _) Try.underlying45 rfl (sizeFl 0 0)
      have Q5 := veil Y5.below
      clear S st Y5 V4
      go_wp2_with (refine wpList_load_of rfl (.tmp 16) rfl rfl (L.out _ rfl) ?_)
      refine (lives_true _).mono ?_
      rintro e w9 ⟨rfl, q9⟩
      go_wp2_with fail
      go_ret
      exact ⟨rfl, Q5.out.trans (q9.mono Q5.out.size)⟩

theorem skip_rest (A : Option Addr) (n c : Nat) (nx : Int) (B : Option Addr) (m d : Nat) (w : World) (h : 1000 < n) :
    Calls Try.prog 7 #[.slice A n c, .int .u8 nx, .slice B m d] w fun e w' => e = .returned (.bool true) ∧ Below w.heap.size w w' := by
  have i1 : (1000 : Int) < (n : Int) := by omega
  go_enter Try.func7, Try.ntmps7
  go_wp2_with fail
  refine (lives_true _).mono ?_
  rintro e w1 ⟨rfl, q⟩
  go_wp2_with fail
  go_ret
  exact ⟨rfl, q⟩

theorem skip_list (A : Option Addr) (n c : Nat) (nx : Int) (B : Option Addr) (m d : Nat) (w : World) (h1 : n ≤ 1000) (h : 20 < m) :
    Calls Try.prog 7 #[.slice A n c, .int .u8 nx, .slice B m d] w fun e w' => e = .returned (.bool true) ∧ Below w.heap.size w w' := by
  have i1 : ¬ (1000 : Int) < (n : Int) := by omega
  have i2 : (20 : Int) < (m : Int) := by omega
  go_enter Try.func7, Try.ntmps7
  go_wp2_with fail
  refine (lives_true _).mono ?_
  rintro e w1 ⟨rfl, q⟩
  go_wp2_with fail
  go_ret
  exact ⟨rfl, q⟩

theorem skip_number (A : Option Addr) (n c : Nat) (nx : Int) (B : Option Addr) (m d : Nat) (w : World) (h1 : n ≤ 1000) (h2 : m ≤ 20) (h : nx = 0 ∨ nx = 43 ∨ nx = 44 ∨ nx = 59 ∨ nx = 60) :
    Calls Try.prog 7 #[.slice A n c, .int .u8 nx, .slice B m d] w fun e w' => e = .returned (.bool true) ∧ Below w.heap.size w w' := by
  have i1 : ¬ (1000 : Int) < (n : Int) := by omega
  have i2 : ¬ (20 : Int) < (m : Int) := by omega
  have KN := veil (number_yes nx w h)
  clear h
  go_enter Try.func7, Try.ntmps7
  go_wp2_with fail
  refine (KN.out).mono ?_
  rintro e w2 ⟨rfl, rfl⟩
  go_wp2_with fail
  refine (lives_true _).mono ?_
  rintro e w1 ⟨rfl, q⟩
  go_wp2_with fail
  go_ret
  exact ⟨rfl, q⟩

theorem own : ownKnob Try.prog.godebug = none := by kernel_rfl
theorem readable : ∀ t ∈ Try.f7.params.toList, Try.prog.readableRec t = true ∧ t < Try.prog.types.size := by
  rw [Try.params7]
  intro t ht
  simp at ht
  rcases ht with rfl | rfl | rfl
  · exact ⟨by kernel_rfl, of_decide_eq_true (by kernel_rfl)⟩
  · exact ⟨by kernel_rfl, of_decide_eq_true (by kernel_rfl)⟩
  · exact ⟨by kernel_rfl, of_decide_eq_true (by kernel_rfl)⟩

set_option maxRecDepth 100000 in
theorem lifted (os : Os) (started : os.Started) (H : Type) (enc : TypeId × Value → H) :
    ReturnsInHanded {} Try.checked os 7 .any (Rows.headersOverSpec.pre6 enc Try.prog Try.f7 Rows.headersOverRow.domain false) (Rows.headersOverSpec.post enc Try.prog Try.f7 false true false false) := by
  refine returnsInHanded_of_change_sized (C := Try.checked) own started (by kernel_rfl) Try.func7
    (ChangeSpec.witness6 (enc := enc) (C := Try.checked) false ⟨#[], #[.slice none 0 0, .int .u8 0, .slice none 0 0], []⟩ 8 (by kernel_rfl) (by kernel_rfl) (by kernel_rfl) (by kernel_rfl)) ?_
  intro W base args ds gs before hval0 hW _ hsz0 _
  have hval : ∀ (j : Nat) t v, Try.f7.params[j]? = some t → args[j]? = some v → Value.okWide Try.prog W .any base t v := hval0
  have hW' := hW
  obtain ⟨p, q, hA0, hV, rfl, _, _⟩ := hW
  have hA : DataW.TrodAll enc Try.prog W 0 (fun _ => true) true Try.f7.params.toList args.toList ds p := hA0
  rw [Try.params7] at hA hval
  obtain ⟨v0, vs0, d0, ds0, p0, q0, hargs, rfl, rfl, h0, r0⟩ := trodAll_cons hA
  obtain ⟨v1, vs1, d1, ds1, p1, q1, rfl, rfl, rfl, h1, r1⟩ := trodAll_cons r0
  obtain ⟨v2, vs2, d2, ds2, p2, q2, rfl, rfl, rfl, h2, r2⟩ := trodAll_cons r1
  obtain ⟨rfl, rfl, rfl⟩ := trodAll_nil r2
  obtain rfl : args = #[v0, v1, v2] := by cases args; simp_all
  obtain ⟨rfl, rfl⟩ := trodVars_none hV
  obtain ⟨A, n, c, zs, rfl, hs, hl, hy⟩ := Hd.open_bytes (hval 0 28 v0 rfl rfl) (opens_arg h0 (slim_of hsz0 (j := 0) rfl rfl))
  obtain ⟨nx, rfl, rfl, rfl, w1⟩ := open_int Try.underlying5 (hval 1 5 v1 rfl rfl) h1
  obtain ⟨B, m, d, ls, rfl, ht, hl2, hy2⟩ := Hd.open_bytes (hval 2 28 v2 rfl rfl) (opens_arg h2 (slim_of hsz0 (j := 2) rfl rfl))
  have hw : Calls Try.prog 7 #[.slice A n c, .int .u8 nx, .slice B m d] W fun e w' => e = .returned (.bool true) ∧ Below W.heap.size W w' := by
    by_cases g1 : 1000 < n
    · exact skip_rest A n c nx B m d W g1
    · by_cases g2 : 20 < m
      · exact skip_list A n c nx B m d W (by omega) g2
      · by_cases g3 : nx = 0 ∨ nx = 43 ∨ nx = 44 ∨ nx = 59 ∨ nx = 60
        · exact skip_number A n c nx B m d W (by omega) (by omega) g3
        · cases B with
          | none => exact walk_nil A n c zs nx m d ls W hs hy ht hy2 (by omega) (by omega) (u8_of w1) g3
          | some b0 => exact walk_some A n c zs nx b0 m d ls W hs hy ht hy2 (by omega) (by omega) (u8_of w1) g3
  refine hw.mono fun e W' ⟨he, hb⟩ => ?_
  subst he
  exact ⟨_, rfl, law_post (by kernel_rfl) rfl rfl Try.underlying4 readable hW' rfl hb⟩

/-- HeadersOver, as given -/
theorem holds : Rows.HeadersOverSaid :=
  OpenClaim.holds_of_wide 7 Try.f7 rfl rfl rfl rfl rfl rfl rfl ⟨rfl, rfl, rfl, rfl, rfl⟩ rfl rfl rfl rfl rfl (by kernel_rfl) Try.func7 (by kernel_rfl)
    (of_decide_eq_true (by kernel_rfl)) (by unfold Func.isWrapper; first | (rw [if_pos (by decide +kernel)]; kernel_rfl) | (rw [if_neg (by decide +kernel)]; exact ⟨rfl, rfl⟩))
    (fun os started H enc _ => lifted os started H enc)

#print axioms holds
end Go.Proofs.Ytfkjfdmepeahnaa.headersOver
