/-
  The chapter's examples hold.
  Conditions: none.
-/
import Derived.Test.YtfkjfdmepeahnaaHdcH
import Derived.Test.YtfkjfdmepeahnaaHdcQ
import Derived.Test.YtfkjfdmepeahnaaSameB
import Derived.Test.YtfkjfdmepeahnaaPktN
namespace Go.Proofs.Ytfkjfdmepeahnaa.Hd
set_option maxRecDepth 100000
open Go.RowKit Ops

/-! ### what the examples' chains tell -/
def each : List Int := [58, 0, 5, 2, 0, 0, 1, 0, 7]
def strange : List Int := [58, 0, 194, 4, 0, 0, 0, 0]
theorem ch1 : chain 60 [59, 0, 1, 4, 0, 0, 0, 0] 40 false = { last := 59, rest := [] } := by simp [chain, walk, hdr, opts]
theorem ch2 : chain 0 each 40 true = { last := 58, rest := [7], alert := true } := by simp [each, chain, walk, hdr, opts]
theorem ch3 : chain 0 each 48 false = { code := 1, place := 40, e := 7 } := by simp [each, chain, teller, walk, faulT]
theorem ch4 : chain 60 strange 48 true = { e := 8 } := by simp [strange, chain, walk, hdr, opts, errT]
theorem ch5 : chain 60 strange 48 false = { code := 2, place := 50, e := 7 } := by simp [strange, chain, walk, hdr, opts, faulT]
theorem ch6 : chain 43 [58, 0, 0, 1, 0, 0, 0, 0] 40 false = { code := 0, place := 43, e := 7 } := by simp [chain, walk, hdr, faulT]

/-- noughts appended -/
theorem append_zeros {w : World} {g n m : Nat} {xs : List Int} (ty : TypeId) (hr : Row w g 5 (bv xs).toArray) (hl : xs.length = n) (hm : 0 < m) (hb : n + m ≤ 16777216) :
    ∃ v w', (Builtin.append_ #[28, 3] ty #[.slice (some ⟨g, 0, none⟩) n n, .int .i64 m]).run Try.prog w = .ok v w' ∧ Own w' w.heap.size v (xs ++ List.replicate m 0) ∧ Below w.heap.size w w' := by
  obtain ⟨i, hi, hz0, hz1, hz2⟩ := info_parts info_u8
  have hn : ¬ (n + m ≤ n) := by omega
  have h63 : ¬ (9223372036854775807 < ((n : Int) + (m : Int))) := by omega
  have hcp := nextslicecap_le (need := n + m) (old := n) (by omega)
  have h48 : ¬ (281474976710656 < Builtin.nextslicecap (n + m) n * i.bytes) := by rw [hz2]; omega
  have hw : IntKind.i64.wrap (m : Int) = (m : Int) := by rw [IntKind.wrap_i64]; omega
  have hm0 : ¬ ((m : Int) < 0) := by omega
  have hmb : ¬ ((281474976710656 : Int) < (m : Int) * (i.bytes : Int)) := by rw [hz2]; omega
  have hmz : ¬ m = 0 := by omega
  have hfo := run_firstCells_some (P := Try.prog) w.drew i.size n ⟨g, 0, none⟩ n n (bv xs) (by rw [bv_length, hl, hz1]; omega) (fun j v hj => by
    have hw' : w.drew.cell? ((⟨g, 0, none⟩ : Addr).add j) = w.cell? ((⟨g, 0, none⟩ : Addr).add j) := rfl
    rw [hw', show ((⟨g, 0, none⟩ : Addr).add j) = ⟨g, j, none⟩ by simp only [Addr.add]; split <;> simp_all, hr.cell]
    simpa using hj)
  rw [hz1] at hfo
  have hmax : max (m : Int) 0 = (m : Int) := by omega
  have hrun : (Builtin.append_ #[28, 3] ty #[.slice (some ⟨g, 0, none⟩) n n, .int .i64 m]).run Try.prog w = .ok (.slice (some ⟨w.heap.size, 0, none⟩) (n + m) (grownCap w (n + m) n 5))
      (w.drew.alloc (.cells ((bv xs).toArray ++ Builtin.zeroCells #[.int .u8 0] m ++ Builtin.zeroCells #[.int .u8 0] (grownCap w (n + m) n 5 - (n + m))) 5)) := by
    simp [Builtin.append_, run_underlying Try.underlying28, run_underlying Try.underlying3, sizeOf, typeInfo, zeroValue, hi, hz0, hz1, hn, h63, h48, hw, hm0, hmb, hmz, Question.forced, hfo, newRow, grownCap, asInt, asIntOf, Value.cells, hmax]
  have hcap := grownCap_ge w (n + m) n 5
  have hmx := grownCap_le_maxLen w (n + m) n 5 (by unfold maxLen; omega)
  generalize grownCap w (n + m) n 5 = cap at *
  have hz : ∀ k, Builtin.zeroCells #[.int .u8 0] k = zeros k := fun k => by
    apply Array.ext'
    rw [zeros_list]
    simp [Builtin.zeroCells, Nat.mod_one, List.map_const']
  rw [hz, hz] at hrun
  refine ⟨_, _, hrun, ⟨by simp [bv_length, hl], .inr ⟨w.heap.size, cap, _, by simp [hl], Nat.le_refl _, heap_alloc_new w.drew _, by simp [hl]; exact hcap, hmx, ?_, ?_⟩⟩, ((Below.refl w.heap.size w).drew).alloc (Nat.le_refl _) _⟩
  · simp [zeros_size, bv_length, hl]
    omega
  · rw [List.length_append, List.length_replicate, hl, Nat.mul_one]
    simp only [Array.toList_append, zeros_list]
    have e : (bv xs ++ List.replicate m (Value.int .u8 0)).length = n + m := by simp [bv_length, hl]
    rw [List.take_left' e]
    simp [bv]

/-! ### the law's own words for a chain -/
/-- what a call of Chain answers, cell by cell -/
def Answers (w : World) (l : Int) (rs : List Int) (al : Bool) (c p er : Int) (e : Ending) (w' : World) : Prop := ∃ A n, e = .returned (.tuple #[.int .u8 l, .slice A n n, .bool al, .agg #[.bool false, .int .u32 0, .int .u16 0, .bool false], .agg #[.int .u8 c, .int .u32 p], .int .i64 er]) ∧ RestOf w w' rs A n ∧ n = rs.length ∧ Below w.heap.size w w'
theorem rest_len {w w' : World} {rs : List Int} {A : Option Addr} {n : Nat} (h : RestOf w w' rs A n) : n = rs.length := by
  rcases h with ⟨_, rfl, rfl⟩ | ⟨b, o, zs, _, _, _, rfl, ho⟩
  · rfl
  · rw [lef_len ho]
theorem rest_slc {w w' : World} {rs : List Int} {A : Option Addr} {n : Nat} (h : RestOf w w' rs A n) : Slc w' (.slice A n n) rs := by
  rcases h with ⟨rfl, rfl, rfl⟩ | ⟨b, o, zs, rfl, _, hr, rfl, ho⟩
  · exact .inl ⟨rfl, rfl⟩
  · exact slc_at hr ho
theorem answers {next : Int} {zs : List Int} {A : Option Addr} {n cc : Nat} {p : Int} {mc : Bool} {w : World} (hn : 0 ≤ next ∧ next ≤ 255) (hr : Rd w A zs) (hl : zs.length = n) (hz : Byt zs) (hn2 : n ≤ 16000000) (hp : 0 ≤ p ∧ p ≤ 4294967295) {l : Int} {rs : List Int} {al : Bool} {c q er : Int}
    (hT : chain next zs p mc = { last := l, rest := rs, alert := al, code := c, place := q, e := er }) :
    Calls Try.prog 22 #[.int .u8 next, .slice A n cc, .int .u32 p, .bool mc] w (Answers w l rs al c q er) :=
  (codeChain next zs A n cc p mc w hn hr hl hz hn2 hp).mono fun e w' h => by
    rw [hT] at h
    obtain ⟨A', n', he, hr', hb⟩ := h
    exact ⟨A', n', he, hr', rest_len hr', hb⟩

set_option maxHeartbeats 4000000 in
theorem lawChain_yes {next : Int} {zs : List Int} {A : Option Addr} {n cc : Nat} {p : Int} {w : World} (hn : 0 ≤ next ∧ next ≤ 255) (hr : Rd w A zs) (hl : zs.length = n) (hz : Byt zs) (hn2 : n ≤ 16000000) (hp : 0 ≤ p ∧ p ≤ 4294967295) {l : Int} {rs : List Int} (many : Nat)
    (hT : chain next zs p false = { last := l, rest := rs }) (hm : rs.length = many) :
    Calls Try.prog 25 #[.int .u8 next, .slice A n cc, .int .u32 p, .int .u8 l, .int .i64 many] w fun e w' => e = .returned (.bool true) ∧ Below w.heap.size w w' := by
  have K := veil (answers (al := false) (c := 0) (q := 0) (er := 0) hn hr hl hz hn2 hp hT (cc := cc))
  clear hn hr hl hz hn2 hp hT
  go_enter Try.func25, Try.ntmps25
  go_wp2_with fail
  refine (K.out).mono ?_
  rintro e w2 ⟨A2, n2, rfl, hr2, hn2, q⟩
  obtain rfl : n2 = many := hn2.trans hm
  have Q := veil ((q.alloc q.size (.cells #[.bool false, .int .u32 0, .int .u16 0, .bool false] 27)).alloc (by simpa using Nat.le_succ_of_le q.size) (.cells #[.int .u8 0, .int .u32 0] 45))
  clear hr2 hn2 q K hm
  go_wp2_with fail
  go_ret
  exact ⟨rfl, Q.out⟩

set_option maxHeartbeats 4000000 in
theorem lawWrong_yes {next : Int} {zs : List Int} {A : Option Addr} {n cc : Nat} {p : Int} {w : World} (hn : 0 ≤ next ∧ next ≤ 255) (hr : Rd w A zs) (hl : zs.length = n) (hz : Byt zs) (hn2 : n ≤ 16000000) (hp : 0 ≤ p ∧ p ≤ 4294967295) {c q : Int}
    (hT : chain next zs p false = { code := c, place := q, e := 7 }) :
    Calls Try.prog 26 #[.int .u8 next, .slice A n cc, .int .u32 p, .agg #[.int .u8 c, .int .u32 q]] w fun e w' => e = .returned (.bool true) ∧ Below w.heap.size w w' := by
  have b0 := below_new w (.cells #[.int .u8 c, .int .u32 q] 45)
  have K := veil (answers (w := w.alloc (.cells #[.int .u8 c, .int .u32 q] 45)) (l := 0) (rs := []) (al := false) (c := c) (q := q) (er := 7) hn (hr.keep b0) hl hz hn2 hp hT (cc := cc))
  have VY := veil ((Lay.begin w).new (flc c q) 45 (g := w.heap.size) rfl)
  clear hn hr hl hz hn2 hp hT b0
  go_enter Try.func26, Try.ntmps26
  go_wp2_with fail
  refine (K.out).mono ?_
  rintro e w2 ⟨A2, n2, rfl, hr2, hn2, q2⟩
  obtain rfl : n2 = 0 := hn2
  have Y := ((VY.out.keep q2).newA #[.bool false, .int .u32 0, .int .u16 0, .bool false] 27 (g := w2.heap.size) rfl).newA #[.int .u8 c, .int .u32 q] 45 (g := w2.heap.size + 1) (by simp)
  have L : Hid (∀ v, v = Value.agg #[.int .u8 c, .int .u32 q] → (Instr.loadAt 45 (.pointer (some ⟨w.heap.size, 0, none⟩))).run Try.prog ((w2.alloc (.cells #[.bool false, .int .u32 0, .int .u16 0, .bool false] 27)).alloc (.cells #[.int .u8 c, .int .u32 q] 45)) = .ok v ((w2.alloc (.cells #[.bool false, .int .u32 0, .int .u16 0, .bool false] 27)).alloc (.cells #[.int .u8 c, .int .u32 q] 45))) := fun v hv => by
    subst hv
    exact Y.load mem2 (part_all _) Try.underlying45 rfl (sizeFl c q)
  have Q := veil Y.below
  clear hr2 q2 K VY Y
  go_wp2_with (refine wpList_load_of rfl (.tmp 7) rfl rfl (L.out _ rfl) ?_)
  go_ret
  exact ⟨rfl, Q.out⟩

def k9 : Pk := { s := z16, d := z16, hops := 255, next := 58 }
theorem k9_ends : Ends k9 := ⟨rfl, rfl⟩
theorem k9_holds : Holds k9 := ⟨by decide, by decide, by decide, by decide⟩
theorem k9_made (A : Option Addr) (n c : Nat) (w : World) : (Instr.build 30 #[(5, .int .u8 58), (2, .int .u8 255), (6, .slice A n c)]).run Try.prog w = .ok (pv k9 (.slice A n c)) w := by
  show (Instr.build 30 #[(5, .int .u8 58), (2, .int .u8 255), (6, .slice A n c)]).run Try.prog w = .ok (.agg #[.int .u8 0, .int .u8 0, .int .u8 0, .int .u8 0, .int .u8 0, .int .u8 0, .int .u8 0, .int .u8 0, .int .u8 0, .int .u8 0, .int .u8 0, .int .u8 0, .int .u8 0, .int .u8 0, .int .u8 0, .int .u8 0, .int .u8 0, .int .u8 0, .int .u8 0, .int .u8 0, .int .u8 0, .int .u8 0, .int .u8 0, .int .u8 0, .int .u8 0, .int .u8 0, .int .u8 0, .int .u8 0, .int .u8 0, .int .u8 0, .int .u8 0, .int .u8 0, .int .u8 255, .bool false, .bool false, .int .u32 0, .int .u16 0, .bool false, .int .u8 58, .slice A n c]) w
  kernel_rfl
theorem pb9 : pb k9 [1, 2] = [96, 0, 0, 0, 0, 2, 58, 255] ++ List.replicate 32 0 ++ [1, 2] := by decide
theorem byt_of {l : List Int} (h : l.all (fun z => decide (0 ≤ z) && decide (z ≤ 255)) = true) : Byt l := fun z hz => by
  have := List.all_eq_true.1 h z hz
  simpa using this
/-- a literal, where it lies -/
theorem lit_row {w : World} {g : Nat} (zs : List Int) {cs : Array Value} (h : Row w g 5 cs) (hz : cs.toList = bv zs) : Rd w (some ⟨g, 0, none⟩) zs := rd_lit h hz

theorem wpList_app_of {P : Program} {w w' : World} {ops : Array Oper} {rest : List Oper} {o : Oper} {a : Act} {Q : Exit → Act → World → Prop} {t t' : TypeId} {v u r : Value} (hw : Region.wanted o (yielded ops a.tmps) = true) (s x : Operand)
    (ho : o.op = .call { callee := .builtin .append, args := #[s, x], argTypes := #[t, t'] }) (hs : a.eval s = v) (hx : a.eval x = u)
    (hrun : (Builtin.append_ #[t, t'] o.type #[v, u]).run P w = .ok r w') (h : wpList P ops Q rest (a.put o.dst r) w') : wpList P ops Q (o :: rest) a w := by
  refine wpList_wanted hw fun K hK => ?_
  unfold Oper.wp execOp
  simp only [ho, resolve, invoke, builtin, Sem.run_bind, Sem.run_pure, Result.andThen_ok, List.map_toArray, List.map_cons, List.map_nil, hs, hx, hrun]
  exact hK _ _ h

abbrev fg0 : Obj := .cells #[.bool false, .int .u32 0, .int .u16 0, .bool false] 27
abbrev fl0 : Obj := .cells #[.int .u8 0, .int .u32 0] 45

set_option maxHeartbeats 8000000 in
theorem lives_true (w : World) : Calls Try.prog 9 #[] w fun e w' => e = .returned (.bool true) ∧ Below w.heap.size w w' := by
  have Y1 := veil ((Lay.begin w).new (bv [1, 2]) 5 (g := w.heap.size) rfl)
  have Bf := veil (fun u => k9_made (some ⟨w.heap.size, 0, none⟩) 2 2 u)
  have KP := codePut_ok k9 (some ⟨w.heap.size, 0, none⟩) 2 2 [1, 2] (w.alloc (.cells (bv [1, 2]).toArray 5)) k9_ends k9_holds (.inr ⟨_, 2, rfl, rd_whole (Y1.out.at mem0), by decide⟩) ⟨by simp [sizeP, k9], by simp [k9]⟩
  rw [pb9] at KP
  replace KP := veil KP
  generalize k9 = kk at *
  go_enter Try.func9, Try.ntmps9
  go_wp2_with (refine wpList_build_of rfl 30 #[(5, .const (.int .u8 58)), (2, .const (.int .u8 255)), (6, .tmp 19)] rfl #[(5, .int .u8 58), (2, .int .u8 255), (6, .slice (some ⟨w.heap.size, 0, none⟩) 2 2)] (by simp [Act.eval, Act.put]) (Bf.out _) ?_)
  refine (KP.out).mono ?_
  rintro e w2 ⟨g, n2, hg, hn2, rfl, r2, q2⟩
  obtain rfl : n2 = 42 := hn2
  have Y2 := Y1.out.got q2 r2 hg
  have Y3 := Y2.new (bv [96, 0, 0, 0, 0, 2, 58, 255]) 5 (g := w2.heap.size) rfl
  obtain ⟨v4, w4, h4, o4, q4⟩ := append_zeros (m := 32) 28 (Y3.at mem0) (by rfl : _ = 8) (by omega) (by omega)
  have G4 : Grow w w4 [(w2.heap.size, 5, bv [96, 0, 0, 0, 0, 2, 58, 255]), (g, 5, bv ([96, 0, 0, 0, 0, 2, 58, 255] ++ List.replicate 32 0 ++ [1, 2])), (w.heap.size, 5, bv [1, 2])] _ v4 _ := ⟨Y3.keep q4, o4, Y3.size, q4.size, fun x hx => (Y3.row x hx).lt⟩
  have G5 := G4.keep (below_new w4 (.cells #[.int .u8 1, .int .u8 2] 5))
  have r5 : Rd (w4.alloc (.cells #[.int .u8 1, .int .u8 2] 5)) (some ⟨w4.heap.size, 0, none⟩) [1, 2] := lit_row [1, 2] (row_new rfl) rfl
  obtain ⟨v6, w6, h6, G6⟩ := G5.append (.inr ⟨⟨w4.heap.size, 0, none⟩, 2, rfl, r5, by decide⟩) (by decide) 28
  obtain ⟨A6, c6, e6, _, _⟩ := G6.own.slc.slice
  replace e6 : v6 = .slice A6 42 c6 := e6
  subst e6
  have S6 := G6.own.slc
  have KS := veil (sameBytes_eq (some ⟨g, 0, none⟩) A6 42 42 c6 ([96, 0, 0, 0, 0, 2, 58, 255] ++ List.replicate 32 0 ++ [1, 2]) w6 rfl (by unfold maxLen; omega) (rd_whole (G6.lay.at mem1)) (slc_rd S6).1)
  have Y6 := veil G6.lay
  have H4 := veil h4
  have H6 := veil h6
  clear Y1 Bf KP Y2 Y3 G4 G5 G6 r5 h4 h6 S6 o4 q4 r2 q2 hg
  go_wp2_with (first
    | (at_builtin; refine wpList_app_of rfl (.tmp 24) (.const (.int .i64 32)) rfl rfl rfl H4.out ?_)
    | (at_builtin; refine wpList_app_of rfl (.tmp 25) (.tmp 26) rfl rfl rfl H6.out ?_))
  refine (KS.out).mono ?_
  rintro e w7 ⟨rfl, s7⟩
  have Y7 := veil (Y6.out.still s7)
  have KC := veil (lawChain_yes (next := 60) (zs := [59, 0, 1, 4, 0, 0, 0, 0]) (A := some ⟨w7.heap.size, 0, none⟩) (n := 8) (cc := 8) (p := 40) (w := w7.alloc (.cells #[.int .u8 59, .int .u8 0, .int .u8 1, .int .u8 4, .int .u8 0, .int .u8 0, .int .u8 0, .int .u8 0] 5)) (by omega) (lit_row _ (row_new rfl) rfl) rfl (byt_of rfl) (by omega) (by omega) 0 ch1 rfl)
  have Q7 := veil (Y7.out.below.alloc Y7.out.size (.cells #[.int .u8 59, .int .u8 0, .int .u8 1, .int .u8 4, .int .u8 0, .int .u8 0, .int .u8 0, .int .u8 0] 5))
  clear KS Y6 s7 Y7 H4 H6
  go_wp2_with fail
  refine (KC.out).mono ?_
  rintro e w8 ⟨rfl, q8⟩
  have q9 := Q7.out.trans (q8.mono Q7.out.size)
  have Y9 := veil (((Lay.begin w).keep q9).newA #[.int .u8 58, .int .u8 0, .int .u8 5, .int .u8 2, .int .u8 0, .int .u8 0, .int .u8 1, .int .u8 0, .int .u8 7] 5 (g := w8.heap.size) rfl)
  have KA := veil (answers (next := 0) (zs := each) (A := some ⟨w8.heap.size, 0, none⟩) (n := 9) (cc := 9) (p := 40) (mc := true) (by omega) (lit_row each (Y9.out.at mem0) rfl) rfl (byt_of rfl) (by omega) (by omega) ch2)
  clear KC Q7 q8 q9
  go_wp2_with fail
  refine (KA.out).mono ?_
  rintro e w10 ⟨A10, n10, rfl, hr10, hn10, q10⟩
  obtain rfl : n10 = 1 := hn10
  have Y10 := ((Y9.out.keep q10).newA #[.bool false, .int .u32 0, .int .u16 0, .bool false] 27 (g := w10.heap.size) rfl).newA #[.int .u8 0, .int .u32 0] 45 (g := w10.heap.size + 1) (by simp)
  have Y11 := Y10.newA #[.int .u8 7] 5 (g := w10.heap.size + 1 + 1) (by simp)
  have b10 : Below w10.heap.size w10 (((w10.alloc fg0).alloc fl0).alloc (.cells #[.int .u8 7] 5)) := (((Below.refl _ _).alloc (Nat.le_refl _) _).alloc (by simp) _).alloc (by simp; omega) _
  have KS2 := veil (sameBytes_eq A10 (some ⟨w10.heap.size + 1 + 1, 0, none⟩) 1 1 1 [7] (((w10.alloc fg0).alloc fl0).alloc (.cells #[.int .u8 7] 5)) rfl (by unfold maxLen; omega) ((slc_rd (rest_slc hr10)).1.keep b10) (lit_row [7] (Y11.at mem0) rfl))
  have V11 := veil Y11
  clear KA Y9 hr10 q10 Y10 Y11 b10
  go_wp2_with fail
  refine (KS2.out).mono ?_
  rintro e w12 ⟨rfl, s12⟩
  have Y12 := V11.out.still s12
  have KW := veil (lawWrong_yes (next := 0) (zs := each) (A := some ⟨w8.heap.size, 0, none⟩) (n := 9) (cc := 9) (p := 48) (w := w12) (by omega) (lit_row each (Y12.at mem3) rfl) rfl (byt_of rfl) (by omega) (by omega) ch3)
  have V12 := veil Y12.below
  clear KS2 V11 s12 Y12
  go_wp2_with fail
  refine (KW.out).mono ?_
  rintro e w13 ⟨rfl, q13⟩
  have q14 := V12.out.trans (q13.mono V12.out.size)
  have Y14 := veil (((Lay.begin w).keep q14).newA #[.int .u8 58, .int .u8 0, .int .u8 194, .int .u8 4, .int .u8 0, .int .u8 0, .int .u8 0, .int .u8 0] 5 (g := w13.heap.size) rfl)
  have KB := veil (answers (next := 60) (zs := strange) (A := some ⟨w13.heap.size, 0, none⟩) (n := 8) (cc := 8) (p := 48) (mc := true) (l := 0) (rs := []) (al := false) (c := 0) (q := 0) (er := 8) (by omega) (lit_row strange (Y14.out.at mem0) rfl) rfl (byt_of rfl) (by omega) (by omega) ch4)
  clear KW V12 q13 q14
  go_wp2_with fail
  refine (KB.out).mono ?_
  rintro e w15 ⟨A15, n15, rfl, hr15, hn15, q15⟩
  have Y15 := ((Y14.out.keep q15).newA #[.bool false, .int .u32 0, .int .u16 0, .bool false] 27 (g := w15.heap.size) rfl).newA #[.int .u8 0, .int .u32 0] 45 (g := w15.heap.size + 1) (by simp)
  have KW2 := veil (lawWrong_yes (next := 60) (zs := strange) (A := some ⟨w13.heap.size, 0, none⟩) (n := 8) (cc := 8) (p := 48) (w := (w15.alloc fg0).alloc fl0) (by omega) (lit_row strange (Y15.at mem2) rfl) rfl (byt_of rfl) (by omega) (by omega) ch5)
  have V15 := veil Y15.below
  clear KB Y14 hr15 hn15 q15 Y15
  go_wp2_with fail
  refine (KW2.out).mono ?_
  rintro e w16 ⟨rfl, q16⟩
  have q17 := V15.out.trans (q16.mono V15.out.size)
  have KW3 := veil (lawWrong_yes (next := 43) (zs := [58, 0, 0, 1, 0, 0, 0, 0]) (A := some ⟨w16.heap.size, 0, none⟩) (n := 8) (cc := 8) (p := 40) (w := w16.alloc (.cells #[.int .u8 58, .int .u8 0, .int .u8 0, .int .u8 1, .int .u8 0, .int .u8 0, .int .u8 0, .int .u8 0] 5)) (by omega) (lit_row _ (row_new rfl) rfl) rfl (byt_of rfl) (by omega) (by omega) ch6)
  have V17 := veil (q17.alloc q17.size (.cells #[.int .u8 58, .int .u8 0, .int .u8 0, .int .u8 1, .int .u8 0, .int .u8 0, .int .u8 0, .int .u8 0] 5))
  clear KW2 V15 q16 q17
  go_wp2_with fail
  refine (KW3.out).mono ?_
  rintro e w18 ⟨rfl, q18⟩
  go_wp2_with fail
  go_ret
  exact ⟨rfl, V17.out.trans (q18.mono V17.out.size)⟩

end Go.Proofs.Ytfkjfdmepeahnaa.Hd
