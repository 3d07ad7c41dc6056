/-
  A packet out of bytes, by the code: whatever bytes there are.
  Conditions: at most 16000000 bytes.
-/
import Derived.Test.YtfkjfdmepeahnaaGetA
import Derived.Test.YtfkjfdmepeahnaaHdcP
import Derived.Test.YtfkjfdmepeahnaaHdcQ
namespace Go.Proofs.Ytfkjfdmepeahnaa.Hd
set_option maxRecDepth 100000
open Go.RowKit Ops

/-! ### what there is to tell -/
/-- how many bytes are told to follow the fixed header -/
def manyB (zs : List Int) : Nat := (num ((zs.drop 4).take 2)).toNat
def tellB (zs : List Int) : Tl := chain (zs.getD 6 0) ((zs.drop 40).take (manyB zs)) 40 (decide (zs.getD 24 0 = 255))
def baseK (zs : List Int) : Pk := { s := (zs.drop 8).take 16, d := (zs.drop 24).take 16, hops := zs.getD 7 0 }
def gotK (zs : List Int) : Pk := { baseK zs with alert := (tellB zs).alert, frag := (tellB zs).frag, next := (tellB zs).last }
theorem fix_base (zs : List Int) : fixK (zs.take 40) = baseK zs := by
  have e8 : ((zs.take 40).drop 8).take 16 = (zs.drop 8).take 16 := by rw [List.drop_take, List.take_take]; simp
  have e24 : ((zs.take 40).drop 24).take 16 = (zs.drop 24).take 16 := by rw [List.drop_take, List.take_take]; simp
  have e7 : (zs.take 40).getD 7 0 = zs.getD 7 0 := by simp [List.getD]
  unfold fixK baseK
  rw [e8, e24, e7]
theorem base_ends {zs : List Int} (h : 40 ≤ zs.length) : Ends (baseK zs) := ⟨by simp [baseK]; omega, by simp [baseK]; omega⟩
theorem base_dst (zs : List Int) : (baseK zs).d.getD 0 0 = zs.getD 24 0 := by simp [baseK, List.getD]
theorem many_bound {zs : List Int} (hz : Byt zs) (h : 40 ≤ zs.length) : num ((zs.drop 4).take 2) = (manyB zs : Int) ∧ manyB zs < 65536 := by
  have h2 := num_bound ((zs.drop 4).take 2) ((hz.drop 4).take 2) ((zs.drop 4).take 2).length (Nat.le_refl _)
  rw [List.take_length] at h2
  have e2 : ((zs.drop 4).take 2).length = 2 := by simp; omega
  rw [e2] at h2
  have : (256 : Int) ^ 2 = 65536 := by decide
  unfold manyB
  omega
/-- what a call of Get answers -/
def GotB (w : World) (k : Pk) (rs : List Int) (c p er : Int) (e : Ending) (w' : World) : Prop := ∃ A n, e = .returned (.tuple #[pv k (.slice A n n), .agg (flc c p).toArray, .int .i64 er]) ∧ RestOf w w' rs A n ∧ Below w.heap.size w w'
theorem ret_cct {w : World} {P : Program} {fn : Func} {a b d : Tmp} {t1 t2 : TypeId} {tmps : Array Value} {g1 g2 : Nat} {vs us : List Value} {x : Value} {d1 d2 : TypeDesc} (hr : fn.results = #[.cell a t1, .cell b t2, .tmp d])
    (ha : tmps.getD a undef = .pointer (some ⟨g1, 0, none⟩)) (hb : tmps.getD b undef = .pointer (some ⟨g2, 0, none⟩)) (hd : tmps.getD d undef = x) (h1 : w.rangeAt g1 0 vs) (h2 : w.rangeAt g2 0 us) (hu1 : P.underlying t1 = some d1) (hd1 : d1.isRow = true) (hi1 : (P.info? t1).map (·.size) = some vs.length) (hu2 : P.underlying t2 = some d2) (hd2 : d2.isRow = true) (hi2 : (P.info? t2).map (·.size) = some us.length) :
    (results fn tmps).run P w = .ok (.tuple #[.agg vs.toArray, .agg us.toArray, x]) w := by
  have ha' : tmps[a]?.getD undef = .pointer (some ⟨g1, 0, none⟩) := by simpa using ha
  have hb' : tmps[b]?.getD undef = .pointer (some ⟨g2, 0, none⟩) := by simpa using hb
  have hd' : tmps[d]?.getD undef = x := by simpa using hd
  simp [results, hr, ha', hb', hd', asAddr, run_loadVar_mid w g1 0 t1 vs d1 h1 hu1 hd1 hi1, run_loadVar_mid w g2 0 t2 us d2 h2 hu2 hd2 hi2]
theorem rest_far {w0 w5 w6 w7 : World} {rs : List Int} {A : Option Addr} {n : Nat} (h : RestOf w5 w6 rs A n) (hw : w0.heap.size + 1 < w5.heap.size)
    (hk : ∀ b (t : TypeId) (cs : Array Value), b ≠ w0.heap.size → b ≠ w0.heap.size + 1 → Row w6 b t cs → Row w7 b t cs) : RestOf w5 w7 rs A n := by
  rcases h with h | ⟨b, o, zs, h1, h2, h3, h4⟩
  · exact .inl h
  · exact .inr ⟨b, o, zs, h1, by omega, hk b _ _ (by omega) (by omega) h3, h4⟩
theorem rest_from {w0 w5 w7 : World} {rs : List Int} {A : Option Addr} {n : Nat} (h : RestOf w5 w7 rs A n) (hw : w0.heap.size + 1 < w5.heap.size) : RestOf w0 w7 rs A n := by
  rcases h with h | ⟨b, o, zs, h1, h2, h3⟩
  · exact .inl h
  · exact .inr ⟨b, o, zs, h1, by omega, h3⟩
theorem Row.setRowFar {w : World} {g b : Nat} {t : TypeId} {cs : Array Value} (h : Row w b t cs) (hne : b ≠ g) (us : Array Value) : Row (w.setRow g us) b t cs := by
  unfold Row at h ⊢
  rw [← h]
  unfold World.setRow
  rw [Array.getElem?_modify, if_neg (fun e => hne e.symm)]
theorem wpList_slhi_of {P : Program} {w w2 : World} {ops : Array Oper} {rest : List Oper} {op : Oper} {a : Act} {Q : Exit → Act → World → Prop} {u l v : Value} (hw : Region.wanted op (yielded ops a.tmps) = true) (t : TypeId) (x hi : Operand) (ho : op.op = .slice t x none (some hi) none) (hx : a.eval x = u) (hl : a.eval hi = l)
    (hrun : (Instr.sliceAt t u none (some l) none).run P w = .ok v w2) (h : wpList P ops Q rest (a.put op.dst v) w2) : wpList P ops Q (op :: rest) a w := by
  refine wpList_wanted hw fun K hK => ?_
  unfold Oper.wp execOp
  simp only [ho, hx, hl, hrun, Option.map_some, Option.map_none, Sem.run_bind, Sem.run_pure, Result.andThen_ok]
  exact hK _ _ h
theorem yieldsIf_slhi {P : Program} {ops : Array Oper} {S : World → Prop} {op : Oper} {a : Act} {u l v : Value} (hw : Region.wanted op (yielded ops a.tmps) = true) (t : TypeId) (x hi : Operand) (ho : op.op = .slice t x none (some hi) none) (hx : a.eval x = u) (hl : a.eval hi = l)
    (hrun : ∀ w, (Instr.sliceAt t u none (some l) none).run P w = .ok v w) : YieldsIf P ops S op v a :=
  .inl ⟨hw, fun w _ => by
    unfold execOp
    simp only [ho, hx, hl, hrun, Option.map_some, Option.map_none, Sem.run_bind, Sem.run_pure, Result.andThen_ok]⟩

set_option linter.unusedSimpArgs false in
set_option maxHeartbeats 16000000 in
theorem codeGet_short (A : Option Addr) (n c : Nat) (zs : List Int) (w : World) (_hs : Slc w (.slice A n c) zs) (_hz : Byt zs) (_hl : zs.length = n) (_hn : n ≤ 16000000) (h : n < 40) : Calls Try.prog 18 #[.slice A n c] w (GotB w noPk [] 0 0 5) := by
  obtain ⟨Z, hZ⟩ : ∃ Z, Z = zp := ⟨_, rfl⟩
  obtain ⟨X, hX⟩ : ∃ X : Array Value, X = #[.int .u8 0, .int .u32 0] := ⟨_, rfl⟩
  have hzl : Hid (Z.toList.length = 40) := by rw [hZ]; exact rfl
  have hxl : Hid (X.toList.length = 2) := by rw [hX]; exact rfl
  have Y := ((Lay.begin w).newA Z 30 (g := w.heap.size) rfl).newA X 45 (g := w.heap.size + 1) (by simp)
  have T1 := veil (pkt_store (k := noPk) (v := nilV) Y mem1 hzl.out noPk_ends rfl)
  have Y8 := Y.put 1 rfl (pc noPk nilV)
  simp only [List.set_cons_zero, List.set_cons_succ] at Y8
  have T2 := veil (store_all (P := Try.prog) (ty := 45) (vs := flc 0 0) (Y8.at mem0) (by rw [hxl.out]; rfl) (sizeFl _ _) (one_fl _ _))
  have Y9 := veil (Y8.put 0 rfl (flc 0 0))
  simp only [List.set_cons_zero, List.set_cons_succ] at Y9
  have B1 := veil pkt_made
  have B2 := veil made_fl
  have VE := veil noPk_ends
  have i1 : (n : Int) < 40 := by omega
  clear Y Y8
  generalize noPk = kk at *
  generalize Z.toList = ZL at *
  generalize X.toList = XL at *
  unfold zp at hZ
  subst hZ hX
  go_enter Try.func18, Try.ntmps18
  go_wp2_with (first
    | (refine wpList_build_of rfl 30 #[] rfl #[] (by simp) (B1.out _) ?_)
    | (refine wpList_build_of rfl 45 #[] rfl #[] (by simp) (B2.out _) ?_)
    | (refine wpList_store_of rfl _ _ rfl rfl rfl T1.out ?_)
    | (refine wpList_store_of rfl _ _ rfl rfl rfl T2.out ?_))
  refine bodyPost_ret (ret_cct rfl rfl rfl rfl (Y9.out.range mem1 (part_all _)) (Y9.out.range mem0 (part_all _)) Try.underlying30 rfl (sizePkt VE.out) Try.underlying45 rfl (sizeFl _ _)) rfl ?_
  exact ⟨none, 0, rfl, .inl ⟨rfl, rfl, rfl⟩, Y9.out.below⟩

set_option linter.unusedSimpArgs false in
set_option maxHeartbeats 16000000 in
theorem codeGet_form (A : Option Addr) (n c : Nat) (zs : List Int) (w : World) (hs : Slc w (.slice A n c) zs) (hz : Byt zs) (hl : zs.length = n) (_hn : n ≤ 16000000) (h : 40 ≤ n) (hf : ¬ zs.getD 0 0 / 16 = 6) : Calls Try.prog 18 #[.slice A n c] w (GotB w noPk [] 0 0 4) := by
  obtain ⟨Z, hZ⟩ : ∃ Z, Z = zp := ⟨_, rfl⟩
  obtain ⟨X, hX⟩ : ∃ X : Array Value, X = #[.int .u8 0, .int .u32 0] := ⟨_, rfl⟩
  have hzl : Hid (Z.toList.length = 40) := by rw [hZ]; exact rfl
  have hxl : Hid (X.toList.length = 2) := by rw [hX]; exact rfl
  have Y := ((Lay.begin w).newA Z 30 (g := w.heap.size) rfl).newA X 45 (g := w.heap.size + 1) (by simp)
  have T1 := veil (pkt_store (k := noPk) (v := nilV) Y mem1 hzl.out noPk_ends rfl)
  have Y8 := Y.put 1 rfl (pc noPk nilV)
  simp only [List.set_cons_zero, List.set_cons_succ] at Y8
  have T2 := veil (store_all (P := Try.prog) (ty := 45) (vs := flc 0 0) (Y8.at mem0) (by rw [hxl.out]; rfl) (sizeFl _ _) (one_fl _ _))
  have Y9 := veil (Y8.put 0 rfl (flc 0 0))
  simp only [List.set_cons_zero, List.set_cons_succ] at Y9
  have B1 := veil pkt_made
  have B2 := veil made_fl
  have VE := veil noPk_ends
  have i1 : ¬ (n : Int) < 40 := by omega
  have i0 : (0 : Int) < (n : Int) := by omega
  have hb := hz.at_ 0
  obtain ⟨a, ha, ca⟩ := ((slc_rd hs).1.keep Y.below) 0 (by omega)
  subst ha
  rw [show a.add 0 = a by simp [Addr.add]] at ca
  generalize zs.getD 0 0 = x at *
  have d6 : (x / 16 == 6) = false := by simpa using hf
  clear Y Y8 hs hz hl hf
  generalize noPk = kk at *
  generalize Z.toList = ZL at *
  generalize X.toList = XL at *
  unfold zp at hZ
  subst hZ hX
  go_enter Try.func18, Try.ntmps18
  go_wp2_with (first
    | (refine wpList_build_of rfl 30 #[] rfl #[] (by simp) (B1.out _) ?_)
    | (refine wpList_build_of rfl 45 #[] rfl #[] (by simp) (B2.out _) ?_)
    | (refine wpList_store_of rfl _ _ rfl rfl rfl T1.out ?_)
    | (refine wpList_store_of rfl _ _ rfl rfl rfl T2.out ?_))
  refine bodyPost_ret (ret_cct rfl rfl rfl rfl (Y9.out.range mem1 (part_all _)) (Y9.out.range mem0 (part_all _)) Try.underlying30 rfl (sizePkt VE.out) Try.underlying45 rfl (sizeFl _ _)) rfl ?_
  exact ⟨none, 0, rfl, .inl ⟨rfl, rfl, rfl⟩, Y9.out.below⟩

set_option linter.unusedSimpArgs false in
set_option maxHeartbeats 16000000 in
theorem codeGet_less (A : Option Addr) (n c : Nat) (zs : List Int) (w : World) (hs : Slc w (.slice A n c) zs) (hz : Byt zs) (hl : zs.length = n) (_hn : n ≤ 16000000) (h : 40 ≤ n) (hf : zs.getD 0 0 / 16 = 6) (hlt : n < 40 + manyB zs) : Calls Try.prog 18 #[.slice A n c] w (GotB w noPk [] 0 0 5) := by
  obtain ⟨Z, hZ⟩ : ∃ Z, Z = zp := ⟨_, rfl⟩
  obtain ⟨X, hX⟩ : ∃ X : Array Value, X = #[.int .u8 0, .int .u32 0] := ⟨_, rfl⟩
  have hzl : Hid (Z.toList.length = 40) := by rw [hZ]; exact rfl
  have hxl : Hid (X.toList.length = 2) := by rw [hX]; exact rfl
  have Y := ((Lay.begin w).newA Z 30 (g := w.heap.size) rfl).newA X 45 (g := w.heap.size + 1) (by simp)
  have i1 : ¬ (n : Int) < 40 := by omega
  have i0 : (0 : Int) < (n : Int) := by omega
  have hb := hz.at_ 0
  obtain ⟨a, ha, ca⟩ := ((slc_rd hs).1.keep Y.below) 0 (by omega)
  subst ha
  rw [show a.add 0 = a by simp [Addr.add]] at ca
  obtain ⟨hm, hmb⟩ := many_bound hz (by omega)
  have hc := slc_cap hs
  have SH := veil (slice_hi (A := some a) (n := n) (c := c) (k := 40) (by omega))
  have SL := veil (slice_lo (A := some a) (n := n) (c := c) (k := 40) (by omega))
  have KF := getFixed_any (some a) c (zs.take 40) ((w.alloc (.cells Z 30)).alloc (.cells X 45)) (by simp; omega) (hz.take 40) (((slc_rd hs).1.keep Y.below).take 40)
  have e4 : ((zs.take 40).drop 4).take 2 = (zs.drop 4).take 2 := by rw [List.drop_take, List.take_take]; simp
  have e6 : (zs.take 40).getD 6 0 = zs.getD 6 0 := by simp [List.getD]
  rw [e4, e6, fix_base, hm] at KF
  replace KF := veil KF
  have BE := veil (base_ends (zs := zs) (by omega))
  have VY := veil Y
  generalize hx0 : zs.getD 0 0 = x at *
  obtain ⟨m, hmm⟩ : ∃ m, manyB zs = m := ⟨_, rfl⟩
  rw [hmm] at KF hmb
  rw [hmm] at hlt
  have d6 : (x / 16 == 6) = true := by simpa using hf
  obtain ⟨x6, hx6⟩ : ∃ x6, zs.getD 6 0 = x6 := ⟨_, rfl⟩
  rw [hx6] at KF
  obtain ⟨kb, hkb⟩ : ∃ kb, baseK zs = kb := ⟨_, rfl⟩
  rw [hkb] at KF BE
  clear Y hs hz hl hm hmm e4 e6 hx6 hkb hf hx0
  have iL : ((n - 40 : Nat) : Int) < (m : Int) := by omega
  clear hmb hlt hc
  generalize Z.toList = ZL at *
  generalize X.toList = XL at *
  unfold zp at hZ
  subst hZ hX
  go_enter Try.func18, Try.ntmps18
  go_wp2_with (refine wpList_slhi_of rfl _ (.tmp 22) (.const (.int .i64 40)) rfl rfl rfl (SH.out _) ?_)
  clear ca d6 hb
  refine (KF.out).mono ?_
  rintro e w1 ⟨rfl, q⟩
  have Y1 := VY.out.keep q
  obtain ⟨Z, hZ⟩ : ∃ Z, Z = zp := ⟨_, rfl⟩
  have hzl2 : Hid (Z.toList.length = 40) := by rw [hZ]; exact rfl
  have Y2 := Y1.newA Z 30 (g := w1.heap.size) rfl
  have T0 := veil (pkt_store (k := kb) (v := nilV) Y2 mem0 hzl2.out BE.out rfl)
  have Y3 := Y2.put 0 rfl (pc kb nilV)
  simp only [List.set_cons_zero] at Y3
  obtain ⟨u1, hu⟩ : ∃ u, (w1.alloc (.cells Z 30)).setRow w1.heap.size (pc kb nilV).toArray = u := ⟨_, rfl⟩
  rw [hu] at T0 Y3
  have VY3 := veil Y3
  clear KF q Y1 Y2 hu VY
  have T1 := veil (pkt_store (k := noPk) (v := nilV) VY3.out mem2 hzl.out noPk_ends rfl)
  have Y8 := VY3.out.put 2 rfl (pc noPk nilV)
  simp only [List.set_cons_zero, List.set_cons_succ] at Y8
  have T2 := veil (store_all (P := Try.prog) (ty := 45) (vs := flc 0 0) (Y8.at mem1) (by rw [hxl.out]; rfl) (sizeFl _ _) (one_fl _ _))
  have Y9 := veil (Y8.put 1 rfl (flc 0 0))
  simp only [List.set_cons_zero, List.set_cons_succ] at Y9
  have B1 := veil pkt_made
  have B2 := veil made_fl
  have VE := veil noPk_ends
  generalize noPk = kk at *
  generalize Z.toList = ZL2 at *
  clear VY3 Y8
  unfold zp at hZ
  subst hZ
  go_wp2_with (first
    | (refine wpList_store_of rfl _ _ rfl rfl rfl T0.out ?_)
    | (refine wpList_slice_of rfl _ (.tmp 28) (.const (.int .i64 40)) rfl rfl rfl (SL.out _) ?_)
    | (refine wpList_build_of rfl 30 #[] rfl #[] (by simp) (B1.out _) ?_)
    | (refine wpList_build_of rfl 45 #[] rfl #[] (by simp) (B2.out _) ?_)
    | (refine wpList_store_of rfl _ _ rfl rfl rfl T1.out ?_)
    | (refine wpList_store_of rfl _ _ rfl rfl rfl T2.out ?_))
  refine bodyPost_ret (ret_cct rfl rfl rfl rfl (Y9.out.range mem2 (part_all _)) (Y9.out.range mem1 (part_all _)) Try.underlying30 rfl (sizePkt VE.out) Try.underlying45 rfl (sizeFl _ _)) rfl ?_
  exact ⟨none, 0, rfl, .inl ⟨rfl, rfl, rfl⟩, Y9.out.below⟩

set_option linter.unusedSimpArgs false in
set_option maxHeartbeats 16000000 in
theorem codeGet_told (A : Option Addr) (n c : Nat) (zs : List Int) (w : World) (hs : Slc w (.slice A n c) zs) (hz : Byt zs) (hl : zs.length = n) (hn : n ≤ 16000000) (h : 40 ≤ n) (hf : zs.getD 0 0 / 16 = 6) (hge : 40 + manyB zs ≤ n) (he : (tellB zs).e = 0 ∨ (tellB zs).e = 7) : Calls Try.prog 18 #[.slice A n c] w (GotB w (gotK zs) (tellB zs).rest (tellB zs).code (tellB zs).place (tellB zs).e) := by
  obtain ⟨Z, hZ⟩ : ∃ Z, Z = zp := ⟨_, rfl⟩
  obtain ⟨X, hX⟩ : ∃ X : Array Value, X = #[.int .u8 0, .int .u32 0] := ⟨_, rfl⟩
  have hzl : Hid (Z.toList.length = 40) := by rw [hZ]; exact rfl
  have hxl : Hid (X.toList.length = 2) := by rw [hX]; exact rfl
  have Y := ((Lay.begin w).newA Z 30 (g := w.heap.size) rfl).newA X 45 (g := w.heap.size + 1) (by simp)
  have i1 : ¬ (n : Int) < 40 := by omega
  have i0 : (0 : Int) < (n : Int) := by omega
  have hb := hz.at_ 0
  have hb6 := hz.at_ 6
  obtain ⟨a, ha, ca⟩ := ((slc_rd hs).1.keep Y.below) 0 (by omega)
  subst ha
  rw [show a.add 0 = a by simp [Addr.add]] at ca
  obtain ⟨hm, hmb⟩ := many_bound hz (by omega)
  have hc := slc_cap hs
  have SH := veil (slice_hi (A := some a) (n := n) (c := c) (k := 40) (by omega))
  have SL := veil (slice_lo (A := some a) (n := n) (c := c) (k := 40) (by omega))
  have KF := getFixed_any (some a) c (zs.take 40) ((w.alloc (.cells Z 30)).alloc (.cells X 45)) (by simp; omega) (hz.take 40) (((slc_rd hs).1.keep Y.below).take 40)
  have e4 : ((zs.take 40).drop 4).take 2 = (zs.drop 4).take 2 := by rw [List.drop_take, List.take_take]; simp
  have e6 : (zs.take 40).getD 6 0 = zs.getD 6 0 := by simp [List.getD]
  rw [e4, e6, fix_base, hm] at KF
  replace KF := veil KF
  have HS := veil hs
  have HL := veil hl
  have HZ := veil hz
  have BE := veil (base_ends (zs := zs) (by omega))
  have V6 := veil hb6
  have VY := veil Y
  have VHM := veil hm
  generalize hx0 : zs.getD 0 0 = x at *
  obtain ⟨m, hmm⟩ : ∃ m, manyB zs = m := ⟨_, rfl⟩
  rw [hmm] at KF hmb VHM
  have VMM := veil hmm
  have d6 : (x / 16 == 6) = true := by simpa using hf
  obtain ⟨x6, hx6⟩ : ∃ x6, zs.getD 6 0 = x6 := ⟨_, rfl⟩
  rw [hx6] at KF V6
  have VX6 := veil hx6
  obtain ⟨kb, hkb⟩ : ∃ kb, baseK zs = kb := ⟨_, rfl⟩
  rw [hkb] at KF BE
  have VKB := veil hkb
  clear Y hs hz hl hb6 hm hmm e4 e6 hx6 hkb hf hx0
  have iL : ¬ ((n - 40 : Nat) : Int) < (m : Int) := by rw [VMM.out] at hge; omega
  have hge' : 40 + m ≤ n := by rw [← VMM.out]; exact hge
  obtain ⟨mcb, hmcb⟩ : ∃ b, decide (zs.getD 24 0 = 255) = b := ⟨_, rfl⟩
  have hT0 : tellB zs = chain x6 ((zs.drop 40).take m) 40 mcb := by unfold tellB; rw [VX6.out, VMM.out, hmcb]
  obtain ⟨T, hT⟩ : ∃ T, tellB zs = T := ⟨_, rfl⟩
  rw [hT] at hT0 he
  have VKK : Hid (gotK zs = { kb with alert := T.alert, frag := T.frag, next := T.last }) := veil (by unfold gotK; rw [hT, VKB.out])
  rw [hT, VKK.out]
  have KM : Hid (∀ u, Calls Try.prog 34 #[av kb.d] u fun e w' => e = .returned (.bool mcb) ∧ Below u.heap.size u w') := veil (fun u => by have h := codeMc kb.d u BE.out.d; rw [← VKB.out, base_dst, hmcb] at h; rw [← VKB.out]; exact h)
  have HD := slc_drop HS.out (k := 40) (by omega)
  have KC : Hid (∀ u, Below w.heap.size w u → Calls Try.prog 22 #[.int .u8 x6, .slice (cutA (some a) c 40) m (c - 40), .int .u32 40, .bool mcb] u (Told6 u T)) := veil (fun u hb => by rw [hT0]; exact codeChain x6 ((zs.drop 40).take m) (cutA (some a) c 40) m (c - 40) 40 mcb u V6.out (((slc_rd (HD.keep hb)).1).take m) (by simp; have := HL.out; omega) ((HZ.out.drop 40).take m) (by omega) (by omega))
  have SLH := veil (slice_hi (A := cutA (some a) c 40) (n := n - 40) (c := c - 40) (k := m) (by omega))
  have hc40 : ∀ (q : Option Addr), q = q := fun _ => rfl
  generalize cutA (some a) c 40 = A4 at *
  have VE := veil he
  clear hc40 HD hT0 hT hge hge' hc hmb hmcb he HS HL HZ V6 VX6 VMM VHM VKB
  generalize Z.toList = ZL at *
  generalize X.toList = XL at *
  unfold zp at hZ
  subst hZ hX
  go_enter Try.func18, Try.ntmps18
  go_wp2_with (refine wpList_slhi_of rfl _ (.tmp 22) (.const (.int .i64 40)) rfl rfl rfl (SH.out _) ?_)
  clear ca d6 hb
  refine (KF.out).mono ?_
  rintro e w1 ⟨rfl, q⟩
  have Y1 := VY.out.keep q
  obtain ⟨Z, hZ⟩ : ∃ Z, Z = zp := ⟨_, rfl⟩
  have hzl2 : Hid (Z.toList.length = 40) := by rw [hZ]; exact rfl
  have Y2 := Y1.newA Z 30 (g := w1.heap.size) rfl
  have T0 := veil (pkt_store (k := kb) (v := nilV) Y2 mem0 hzl2.out BE.out rfl)
  have Y3 := Y2.put 0 rfl (pc kb nilV)
  simp only [List.set_cons_zero] at Y3
  obtain ⟨u1, hu⟩ : ∃ u, (w1.alloc (.cells Z 30)).setRow w1.heap.size (pc kb nilV).toArray = u := ⟨_, rfl⟩
  rw [hu] at T0 Y3
  have VY3 := veil Y3
  clear KF q Y1 Y2 hu VY
  have L7 := veil (pktAt Y3 mem0 BE.out).all
  have T9 := veil (pkt_store (k := kb) (v := nilV) Y3 mem2 hzl.out BE.out rfl)
  have Y9 := Y3.put 2 rfl (pc kb nilV)
  simp only [List.set_cons_zero, List.set_cons_succ] at Y9
  obtain ⟨u9, hu9⟩ : ∃ u, u1.setRow w.heap.size (pc kb nilV).toArray = u := ⟨_, rfl⟩
  rw [hu9] at T9 Y9
  have VYD := veil Y9.drew
  have D0 := veil (VYD.out.range mem2 (pc_dst BE.out))
  clear Y3 VY3 Y9 hu9
  generalize Z.toList = ZL2 at *
  unfold zp at hZ
  subst hZ
  go_wp2_with (first
    | (refine wpList_store_of rfl _ _ rfl rfl rfl T0.out ?_)
    | (refine wpList_slice_of rfl _ (.tmp 28) (.const (.int .i64 40)) rfl rfl rfl (SL.out _) ?_)
    | (refine wpList_load_of rfl (.tmp 7) rfl rfl L7.out ?_)
    | (refine wpList_store_of rfl _ _ rfl rfl rfl T9.out ?_))
  refine wp_region_noPanic ?_
  refine wp_region_held_drew (S := (fun w' => w'.rangeAt w.heap.size 16 (bv kb.d))) (by kernel_rfl) D0.out (fun hHeld => ?_)
  refine wpAnyH_take (i := 0) (v := ?_) (by rfl) (by kernel_rfl) (by kernel_rfl) (by kernel_rfl) (fun _ _ _ h => h) (Or.inl ⟨by rfl, ?_⟩) hHeld ?_
  rotate_left
  · intro w' hSw
    (try dsimp only at hSw)
    simp only [List.getElem_toArray, List.getElem_cons_zero, List.getElem_cons_succ]
    go_simp
    all_goals (try with_reducible rfl)
  try simp only [Act.put, List.setIfInBounds_toArray, List.set_cons_zero, List.set_cons_succ, List.getElem_toArray, List.getElem_cons_zero, List.getElem_cons_succ]
  refine wpAnyH_take (i := 1) (v := ?_) (by rfl) (by kernel_rfl) (by kernel_rfl) (by kernel_rfl) (fun _ _ _ h => h) (Or.inl ⟨by rfl, ?_⟩) hHeld ?_
  rotate_left
  · intro w' hSw
    (try dsimp only at hSw)
    simp only [List.getElem_toArray, List.getElem_cons_zero, List.getElem_cons_succ]
    go_simp
    all_goals (try with_reducible rfl)
  try simp only [Act.put, List.setIfInBounds_toArray, List.set_cons_zero, List.set_cons_succ, List.getElem_toArray, List.getElem_cons_zero, List.getElem_cons_succ]
  refine wpAnyH_take (i := 2) (v := ?_) (by rfl) (by kernel_rfl) (by kernel_rfl) (by kernel_rfl) (fun _ _ _ h => h) (Or.inl ⟨by rfl, ?_⟩) hHeld ?_
  rotate_left
  · intro w' hSw
    (try dsimp only at hSw)
    simp only [List.getElem_toArray, List.getElem_cons_zero, List.getElem_cons_succ]
    go_simp
    all_goals (try with_reducible rfl)
  try simp only [Act.put, List.setIfInBounds_toArray, List.set_cons_zero, List.set_cons_succ, List.getElem_toArray, List.getElem_cons_zero, List.getElem_cons_succ]
  refine wpAnyH_take (i := 3) (v := _) (by rfl) (by kernel_rfl) (by kernel_rfl) (by kernel_rfl) (fun _ _ _ h => h) (yieldsIf_slhi (by rfl) _ (.tmp 39) (.tmp 40) (by rfl) rfl rfl SLH.out) hHeld ?_
  try simp only [Act.put, List.setIfInBounds_toArray, List.set_cons_zero, List.set_cons_succ, List.getElem_toArray, List.getElem_cons_zero, List.getElem_cons_succ]
  refine wpAnyH_take (i := 4) (v := ?_) (by rfl) (by kernel_rfl) (by kernel_rfl) (by kernel_rfl) (fun _ _ _ h => h) (Or.inl ⟨by rfl, ?_⟩) hHeld ?_
  rotate_left
  · intro w' hSw
    (try dsimp only at hSw)
    simp only [List.getElem_toArray, List.getElem_cons_zero, List.getElem_cons_succ]
    go_simp
    all_goals (try with_reducible rfl)
  try simp only [Act.put, List.setIfInBounds_toArray, List.set_cons_zero, List.set_cons_succ, List.getElem_toArray, List.getElem_cons_zero, List.getElem_cons_succ]
  refine wpAnyH_take (i := 5) (v := _) (by rfl) (by kernel_rfl) (by kernel_rfl) (by kernel_rfl) (fun _ _ _ h => h) (yieldsIf_load_mid (by rfl) _ _ (by rfl) _ _ rfl (bv kb.d) _ (fun _ h => h) Try.underlying23 rfl (sizeAddr BE.out.d)) hHeld ?_
  try simp only [Act.put, List.setIfInBounds_toArray, List.set_cons_zero, List.set_cons_succ, List.getElem_toArray, List.getElem_cons_zero, List.getElem_cons_succ]
  refine wpAnyH_ready (rs := [6]) (by kernel_rfl) (by simp) ?_
  refine AllReadyH.cons (by rfl) (fun K hK => ?_) AllReadyH.nil
  simp only [List.getElem_toArray, List.getElem_cons_zero, List.getElem_cons_succ]
  go_simp
  refine (KM.out _).mono ?_
  rintro e w5 ⟨rfl, q5⟩
  have Y5 := VYD.out.keep q5
  have D5 := veil (Y5.range mem2 (pc_dst BE.out))
  have VY5 := veil Y5
  clear q5 Y5
  (try dsimp only)
  refine hK.out _ _ D5.out (fun hHeld => ?_)
  clear hK K
  try simp only [Act.put, List.setIfInBounds_toArray, List.set_cons_zero, List.set_cons_succ, List.getElem_toArray, List.getElem_cons_zero, List.getElem_cons_succ]
  refine wpAnyH_ready (rs := [7]) (by kernel_rfl) (by simp) ?_
  refine AllReadyH.cons (by rfl) (fun K hK => ?_) AllReadyH.nil
  simp only [List.getElem_toArray, List.getElem_cons_zero, List.getElem_cons_succ]
  go_simp
  refine (KC.out _ VY5.out.below).mono ?_
  rintro e w6 ⟨A6, n6, rfl, hR, q6⟩
  have hw5 := (VY5.out.at mem1).lt
  have VR := veil hR
  have Y6 := VY5.out.keep q6
  have p38 : w6.cell? ⟨w.heap.size, 38, none⟩ = some (.int .u8 kb.next) := Y6.look mem2 (pc_next BE.out)
  have g38 := Y6.free mem2 38
  have Y7 := Y6.cell 2 rfl 38 (.int .u8 T.last)
  rw [pc_set_next BE.out] at Y7
  have E7 : Hid (Hd.Ends ({ kb with next := T.last } : Pk)) := veil ⟨BE.out.s, BE.out.d⟩
  have p39 : (w6.setCell ⟨w.heap.size, 38, none⟩ (.int .u8 T.last)).cell? ⟨w.heap.size, 39, none⟩ = some nilV := Y7.look mem2 (pc_body E7.out)
  have g39 := Y7.free mem2 39
  have Y8 := Y7.cell 2 rfl 39 (.slice A6 n6 n6)
  rw [pc_set E7.out] at Y8
  have p33 : ((w6.setCell ⟨w.heap.size, 38, none⟩ (.int .u8 T.last)).setCell ⟨w.heap.size, 39, none⟩ (.slice A6 n6 n6)).cell? ⟨w.heap.size, 33, none⟩ = some (.bool kb.alert) := Y8.look mem2 (pc_alert E7.out)
  have g33 := Y8.free mem2 33
  have Y9 := Y8.cell 2 rfl 33 (.bool T.alert)
  rw [pc_set_alert E7.out] at Y9
  have E9 : Hid (Hd.Ends ({ kb with next := T.last, alert := T.alert } : Pk)) := veil ⟨BE.out.s, BE.out.d⟩
  have T10 := store_part (P := Try.prog) (o := 34) (ty := 27) (vs := fgc T.frag) (Y9.at mem2) (by rw [pc_len E9.out]; show 34 + 4 ≤ 40; omega) (sizeFg) fgc_one'
  rw [pc_put_frag E9.out] at T10
  have Y10 := Y9.put 2 rfl (pc { kb with next := T.last, alert := T.alert, frag := T.frag } (.slice A6 n6 n6))
  simp only [List.set_cons_zero, List.set_cons_succ] at Y10
  have E10 : Hid (Hd.Ends ({ kb with next := T.last, alert := T.alert, frag := T.frag } : Pk)) := veil ⟨BE.out.s, BE.out.d⟩
  have T11 := store_all (P := Try.prog) (ty := 45) (vs := flc T.code T.place) (Y10.at mem1) (by rw [hxl.out]; rfl) (sizeFl _ _) (one_fl _ _)
  have Y11 := Y10.put 1 rfl (flc T.code T.place)
  simp only [List.set_cons_zero, List.set_cons_succ] at Y11
  have D6 := veil (Y6.range mem2 (pc_dst BE.out))
  have D7 := veil (Y7.range mem2 (pc_dst E7.out))
  have D8 := veil (Y8.range mem2 (pc_dst E7.out))
  have D9 := veil (Y9.range mem2 (pc_dst E9.out))
  have D10 := veil (Y10.range mem2 (pc_dst E10.out))
  have D11 := veil (Y11.range mem2 (pc_dst E10.out))
  replace T10 := veil T10
  replace T11 := veil T11
  have VY11 := veil Y11
  have VQ6 := veil q6
  clear hR q6 Y6 Y7 Y8 Y9 Y10 Y11 KC KM
  (try dsimp only)
  refine hK.out _ _ D6.out (fun hHeld => ?_)
  clear hK K
  try simp only [Act.put, List.setIfInBounds_toArray, List.set_cons_zero, List.set_cons_succ, List.getElem_toArray, List.getElem_cons_zero, List.getElem_cons_succ]
  refine wpAnyH_take (i := 8) (v := ?_) (by rfl) (by kernel_rfl) (by kernel_rfl) (by kernel_rfl) (fun _ _ _ h => h) (Or.inl ⟨by rfl, ?_⟩) hHeld ?_
  rotate_left
  · intro w' hSw
    (try dsimp only at hSw)
    simp only [List.getElem_toArray, List.getElem_cons_zero, List.getElem_cons_succ]
    go_simp
    all_goals (try with_reducible rfl)
  try simp only [Act.put, List.setIfInBounds_toArray, List.set_cons_zero, List.set_cons_succ, List.getElem_toArray, List.getElem_cons_zero, List.getElem_cons_succ]
  refine wpAnyH_take (i := 9) (v := ?_) (by rfl) (by kernel_rfl) (by kernel_rfl) (by kernel_rfl) (fun _ _ _ h => h) (Or.inl ⟨by rfl, ?_⟩) hHeld ?_
  rotate_left
  · intro w' hSw
    (try dsimp only at hSw)
    simp only [List.getElem_toArray, List.getElem_cons_zero, List.getElem_cons_succ]
    go_simp
    all_goals (try with_reducible rfl)
  try simp only [Act.put, List.setIfInBounds_toArray, List.set_cons_zero, List.set_cons_succ, List.getElem_toArray, List.getElem_cons_zero, List.getElem_cons_succ]
  refine wpAnyH_take (i := 10) (v := ?_) (by rfl) (by kernel_rfl) (by kernel_rfl) (by kernel_rfl) (fun _ _ _ h => h) (Or.inl ⟨by rfl, ?_⟩) hHeld ?_
  rotate_left
  · intro w' hSw
    (try dsimp only at hSw)
    simp only [List.getElem_toArray, List.getElem_cons_zero, List.getElem_cons_succ]
    go_simp
    all_goals (try with_reducible rfl)
  try simp only [Act.put, List.setIfInBounds_toArray, List.set_cons_zero, List.set_cons_succ, List.getElem_toArray, List.getElem_cons_zero, List.getElem_cons_succ]
  refine wpAnyH_take (i := 11) (v := ?_) (by rfl) (by kernel_rfl) (by kernel_rfl) (by kernel_rfl) (fun _ _ _ h => h) (Or.inl ⟨by rfl, ?_⟩) hHeld ?_
  rotate_left
  · intro w' hSw
    (try dsimp only at hSw)
    simp only [List.getElem_toArray, List.getElem_cons_zero, List.getElem_cons_succ]
    go_simp
    all_goals (try with_reducible rfl)
  try simp only [Act.put, List.setIfInBounds_toArray, List.set_cons_zero, List.set_cons_succ, List.getElem_toArray, List.getElem_cons_zero, List.getElem_cons_succ]
  refine wpAnyH_take (i := 12) (v := ?_) (by rfl) (by kernel_rfl) (by kernel_rfl) (by kernel_rfl) (fun _ _ _ h => h) (Or.inl ⟨by rfl, ?_⟩) hHeld ?_
  rotate_left
  · intro w' hSw
    (try dsimp only at hSw)
    simp only [List.getElem_toArray, List.getElem_cons_zero, List.getElem_cons_succ]
    go_simp
    all_goals (try with_reducible rfl)
  try simp only [Act.put, List.setIfInBounds_toArray, List.set_cons_zero, List.set_cons_succ, List.getElem_toArray, List.getElem_cons_zero, List.getElem_cons_succ]
  refine wpAnyH_take (i := 13) (v := ?_) (by rfl) (by kernel_rfl) (by kernel_rfl) (by kernel_rfl) (fun _ _ _ h => h) (Or.inl ⟨by rfl, ?_⟩) hHeld ?_
  rotate_left
  · intro w' hSw
    (try dsimp only at hSw)
    simp only [List.getElem_toArray, List.getElem_cons_zero, List.getElem_cons_succ]
    go_simp
    all_goals (try with_reducible rfl)
  try simp only [Act.put, List.setIfInBounds_toArray, List.set_cons_zero, List.set_cons_succ, List.getElem_toArray, List.getElem_cons_zero, List.getElem_cons_succ]
  refine wpAnyH_take (i := 14) (v := ?_) (by rfl) (by kernel_rfl) (by kernel_rfl) (by kernel_rfl) (fun _ _ _ h => h) (Or.inl ⟨by rfl, ?_⟩) hHeld ?_
  rotate_left
  · intro w' hSw
    (try dsimp only at hSw)
    simp only [List.getElem_toArray, List.getElem_cons_zero, List.getElem_cons_succ]
    go_simp
    all_goals (try with_reducible rfl)
  try simp only [Act.put, List.setIfInBounds_toArray, List.set_cons_zero, List.set_cons_succ, List.getElem_toArray, List.getElem_cons_zero, List.getElem_cons_succ]
  refine wpAnyH_take (i := 15) (v := ?_) (by rfl) (by kernel_rfl) (by kernel_rfl) (by kernel_rfl) (fun _ _ _ h => h) (Or.inl ⟨by rfl, ?_⟩) hHeld ?_
  rotate_left
  · intro w' hSw
    (try dsimp only at hSw)
    simp only [List.getElem_toArray, List.getElem_cons_zero, List.getElem_cons_succ]
    go_simp
    all_goals (try with_reducible rfl)
  try simp only [Act.put, List.setIfInBounds_toArray, List.set_cons_zero, List.set_cons_succ, List.getElem_toArray, List.getElem_cons_zero, List.getElem_cons_succ]
  refine wpAnyH_ready (rs := [16]) (by kernel_rfl) (by simp) ?_
  refine AllReadyH.cons (by rfl) (fun K hK => ?_) AllReadyH.nil
  simp only [List.getElem_toArray, List.getElem_cons_zero, List.getElem_cons_succ]
  go_simp
  (try dsimp only)
  refine hK.out _ _ D7.out (fun hHeld => ?_)
  clear hK K
  try simp only [Act.put, List.setIfInBounds_toArray, List.set_cons_zero, List.set_cons_succ, List.getElem_toArray, List.getElem_cons_zero, List.getElem_cons_succ]
  refine wpAnyH_take (i := 17) (v := ?_) (by rfl) (by kernel_rfl) (by kernel_rfl) (by kernel_rfl) (fun _ _ _ h => h) (Or.inl ⟨by rfl, ?_⟩) hHeld ?_
  rotate_left
  · intro w' hSw
    (try dsimp only at hSw)
    simp only [List.getElem_toArray, List.getElem_cons_zero, List.getElem_cons_succ]
    go_simp
    all_goals (try with_reducible rfl)
  try simp only [Act.put, List.setIfInBounds_toArray, List.set_cons_zero, List.set_cons_succ, List.getElem_toArray, List.getElem_cons_zero, List.getElem_cons_succ]
  refine wpAnyH_ready (rs := [18]) (by kernel_rfl) (by simp) ?_
  refine AllReadyH.cons (by rfl) (fun K hK => ?_) AllReadyH.nil
  simp only [List.getElem_toArray, List.getElem_cons_zero, List.getElem_cons_succ]
  go_simp
  (try dsimp only)
  refine hK.out _ _ D8.out (fun hHeld => ?_)
  clear hK K
  try simp only [Act.put, List.setIfInBounds_toArray, List.set_cons_zero, List.set_cons_succ, List.getElem_toArray, List.getElem_cons_zero, List.getElem_cons_succ]
  refine wpAnyH_take (i := 19) (v := ?_) (by rfl) (by kernel_rfl) (by kernel_rfl) (by kernel_rfl) (fun _ _ _ h => h) (Or.inl ⟨by rfl, ?_⟩) hHeld ?_
  rotate_left
  · intro w' hSw
    (try dsimp only at hSw)
    simp only [List.getElem_toArray, List.getElem_cons_zero, List.getElem_cons_succ]
    go_simp
    all_goals (try with_reducible rfl)
  try simp only [Act.put, List.setIfInBounds_toArray, List.set_cons_zero, List.set_cons_succ, List.getElem_toArray, List.getElem_cons_zero, List.getElem_cons_succ]
  refine wpAnyH_ready (rs := [20]) (by kernel_rfl) (by simp) ?_
  refine AllReadyH.cons (by rfl) (fun K hK => ?_) AllReadyH.nil
  simp only [List.getElem_toArray, List.getElem_cons_zero, List.getElem_cons_succ]
  go_simp
  (try dsimp only)
  refine hK.out _ _ D9.out (fun hHeld => ?_)
  clear hK K
  try simp only [Act.put, List.setIfInBounds_toArray, List.set_cons_zero, List.set_cons_succ, List.getElem_toArray, List.getElem_cons_zero, List.getElem_cons_succ]
  refine wpAnyH_take (i := 21) (v := ?_) (by rfl) (by kernel_rfl) (by kernel_rfl) (by kernel_rfl) (fun _ _ _ h => h) (Or.inl ⟨by rfl, ?_⟩) hHeld ?_
  rotate_left
  · intro w' hSw
    (try dsimp only at hSw)
    simp only [List.getElem_toArray, List.getElem_cons_zero, List.getElem_cons_succ]
    go_simp
    all_goals (try with_reducible rfl)
  try simp only [Act.put, List.setIfInBounds_toArray, List.set_cons_zero, List.set_cons_succ, List.getElem_toArray, List.getElem_cons_zero, List.getElem_cons_succ]
  refine wpAnyH_ready (rs := [22]) (by kernel_rfl) (by simp) ?_
  refine AllReadyH.cons (by rfl) (fun K hK => ?_) AllReadyH.nil
  simp only [List.getElem_toArray, List.getElem_cons_zero, List.getElem_cons_succ]
  refine wp_store_of (.tmp 55) (.tmp 49) rfl rfl rfl T10.out ?_
  (try dsimp only)
  refine hK.out _ _ D10.out (fun hHeld => ?_)
  clear hK K
  try simp only [Act.put, List.setIfInBounds_toArray, List.set_cons_zero, List.set_cons_succ, List.getElem_toArray, List.getElem_cons_zero, List.getElem_cons_succ]
  refine wpAnyH_ready (rs := [23]) (by kernel_rfl) (by simp) ?_
  refine AllReadyH.cons (by rfl) (fun K hK => ?_) AllReadyH.nil
  simp only [List.getElem_toArray, List.getElem_cons_zero, List.getElem_cons_succ]
  refine wp_store_of (.tmp 3) (.tmp 50) rfl rfl rfl T11.out ?_
  (try dsimp only)
  refine hK.out _ _ D11.out (fun hHeld => ?_)
  clear hK K
  try simp only [Act.put, List.setIfInBounds_toArray, List.set_cons_zero, List.set_cons_succ, List.getElem_toArray, List.getElem_cons_zero, List.getElem_cons_succ]
  refine wpAnyH_take (i := 24) (v := ?_) (by rfl) (by kernel_rfl) (by kernel_rfl) (by kernel_rfl) (fun _ _ _ h => h) (Or.inl ⟨by rfl, ?_⟩) hHeld ?_
  rotate_left
  · intro w' hSw
    (try dsimp only at hSw)
    simp only [List.getElem_toArray, List.getElem_cons_zero, List.getElem_cons_succ]
    go_simp
    all_goals (try with_reducible rfl)
  try simp only [Act.put, List.setIfInBounds_toArray, List.set_cons_zero, List.set_cons_succ, List.getElem_toArray, List.getElem_cons_zero, List.getElem_cons_succ]
  refine wpAnyH_done (by kernel_rfl) ?_ _
  refine NoPanic.normal ?_
  clear hHeld
  have VRR : Hid (RestOf w5 _ T.rest A6 n6) := veil (rest_far (w7 := (((((w6.setCell { block := w.heap.size, off := 38 } (Value.int IntKind.u8 T.last)).setCell { block := w.heap.size, off := 39 } (Value.slice A6 n6 n6)).setCell { block := w.heap.size, off := 33 } (Value.bool T.alert)).setRow w.heap.size (pc { kb with next := T.last, alert := T.alert, frag := T.frag } (Value.slice A6 n6 n6)).toArray).setRow (w.heap.size + 1) (flc T.code T.place).toArray)) VR.out hw5 (fun b t cs h1 h2 h => Row.setRowFar (Row.setRowFar (((h.far h1 _).far h1 _).far h1 _) h1 _) h2 _))
  generalize hk9 : ({ kb with next := T.last, alert := T.alert, frag := T.frag } : Pk) = k9 at *
  generalize hw9 : (((((w6.setCell { block := w.heap.size, off := 38 } (Value.int IntKind.u8 T.last)).setCell { block := w.heap.size, off := 39 } (Value.slice A6 n6 n6)).setCell { block := w.heap.size, off := 33 } (Value.bool T.alert)).setRow w.heap.size (pc k9 (Value.slice A6 n6 n6)).toArray).setRow (w.heap.size + 1) (flc T.code T.place).toArray) = w9 at *
  have VYE := veil VY11.out.drew
  have T12 := veil (pkt_store (k := k9) (v := .slice A6 n6 n6) VYE.out mem2 (pc_len E10.out) E10.out rfl)
  have Y12 := VYE.out.put 2 rfl (pc k9 (.slice A6 n6 n6))
  simp only [List.set_cons_zero, List.set_cons_succ] at Y12
  have T13 := veil (store_all (P := Try.prog) (ty := 45) (vs := flc T.code T.place) (Y12.at mem1) rfl (sizeFl _ _) (one_fl _ _))
  have Y13 := Y12.put 1 rfl (flc T.code T.place)
  simp only [List.set_cons_zero, List.set_cons_succ] at Y13
  have VRS := veil (rest_from (rest_far (w7 := (w9.drew.setRow w.heap.size (pc k9 (.slice A6 n6 n6)).toArray).setRow (w.heap.size + 1) (flc T.code T.place).toArray) VRR.out hw5 (fun b t cs h1 h2 h => Row.setRowFar (Row.setRowFar h h1 _) h2 _)) hw5)
  have S0 := veil (And.intro (VYE.out.range mem2 (part_all _)) (VYE.out.range mem1 (part_all _)))
  have S1 := veil (And.intro (Y12.range mem2 (part_all _)) (Y12.range mem1 (part_all _)))
  have S2 := veil (And.intro (Y13.range mem2 (part_all _)) (Y13.range mem1 (part_all _)))
  have VYB := veil Y13
  clear Y12 Y13 T0 T9 T10 T11 L7 SH SL SLH D0 D5 D6 D7 D8 D9 D10 D11 VQ6 VR VRR VYD VY5 hw5 hw9 hk9 VKK BE E7 E9
  rcases VE.out with h0 | h0 <;> rw [h0] <;> have H0 := veil h0 <;> clear VE h0
  · go_wp2_with fail
    refine wp_region_noPanic ?_
    refine wp_region_held_drew (S := (fun w' => w'.rangeAt w.heap.size 0 (pc k9 (.slice A6 n6 n6)) ∧ w'.rangeAt (w.heap.size + 1) 0 (flc T.code T.place))) (by kernel_rfl) S0.out (fun hHeld => ?_)
    refine wpAnyH_take (i := 0) (v := _) (by rfl) (by kernel_rfl) (by kernel_rfl) (by kernel_rfl) (fun _ _ _ h => h) (yieldsIf_load_mid (by rfl) _ _ (by rfl) _ _ rfl (pc k9 (.slice A6 n6 n6)) _ (fun _ h => h.1) Try.underlying30 rfl (sizePkt E10.out)) hHeld ?_
    try simp only [Act.put, List.setIfInBounds_toArray, List.set_cons_zero, List.set_cons_succ, List.getElem_toArray, List.getElem_cons_zero, List.getElem_cons_succ]
    refine wpAnyH_take (i := 1) (v := _) (by rfl) (by kernel_rfl) (by kernel_rfl) (by kernel_rfl) (fun _ _ _ h => h) (yieldsIf_load_mid (by rfl) _ _ (by rfl) _ _ rfl (flc T.code T.place) _ (fun _ h => h.2) Try.underlying45 rfl (sizeFl _ _)) hHeld ?_
    try simp only [Act.put, List.setIfInBounds_toArray, List.set_cons_zero, List.set_cons_succ, List.getElem_toArray, List.getElem_cons_zero, List.getElem_cons_succ]
    refine wpAnyH_take (i := 2) (v := ?_) (by rfl) (by kernel_rfl) (by kernel_rfl) (by kernel_rfl) (fun _ _ _ h => h) (Or.inl ⟨by rfl, ?_⟩) hHeld ?_
    rotate_left
    · intro w' hSw
      (try dsimp only at hSw)
      simp only [List.getElem_toArray, List.getElem_cons_zero, List.getElem_cons_succ]
      go_simp
      all_goals (try with_reducible rfl)
    try simp only [Act.put, List.setIfInBounds_toArray, List.set_cons_zero, List.set_cons_succ, List.getElem_toArray, List.getElem_cons_zero, List.getElem_cons_succ]
    refine wpAnyH_ready (rs := [3]) (by kernel_rfl) (by simp) ?_
    refine AllReadyH.cons (by rfl) (fun K hK => ?_) AllReadyH.nil
    simp only [List.getElem_toArray, List.getElem_cons_zero, List.getElem_cons_succ]
    refine wp_store_of (.tmp 2) (.tmp 65) rfl rfl rfl T12.out ?_
    (try dsimp only)
    refine hK.out _ _ S1.out (fun hHeld => ?_)
    clear hK K
    try simp only [Act.put, List.setIfInBounds_toArray, List.set_cons_zero, List.set_cons_succ, List.getElem_toArray, List.getElem_cons_zero, List.getElem_cons_succ]
    refine wpAnyH_ready (rs := [4]) (by kernel_rfl) (by simp) ?_
    refine AllReadyH.cons (by rfl) (fun K hK => ?_) AllReadyH.nil
    simp only [List.getElem_toArray, List.getElem_cons_zero, List.getElem_cons_succ]
    refine wp_store_of (.tmp 3) (.tmp 66) rfl rfl rfl T13.out ?_
    (try dsimp only)
    refine hK.out _ _ S2.out (fun hHeld => ?_)
    clear hK K
    try simp only [Act.put, List.setIfInBounds_toArray, List.set_cons_zero, List.set_cons_succ, List.getElem_toArray, List.getElem_cons_zero, List.getElem_cons_succ]
    refine wpAnyH_take (i := 5) (v := ?_) (by rfl) (by kernel_rfl) (by kernel_rfl) (by kernel_rfl) (fun _ _ _ h => h) (Or.inl ⟨by rfl, ?_⟩) hHeld ?_
    rotate_left
    · intro w' hSw
      (try dsimp only at hSw)
      simp only [List.getElem_toArray, List.getElem_cons_zero, List.getElem_cons_succ]
      go_simp
      all_goals (try with_reducible rfl)
    try simp only [Act.put, List.setIfInBounds_toArray, List.set_cons_zero, List.set_cons_succ, List.getElem_toArray, List.getElem_cons_zero, List.getElem_cons_succ]
    refine wpAnyH_done (by kernel_rfl) ?_ _
    refine NoPanic.normal ?_
    clear hHeld
    go_wp2_with fail
    refine bodyPost_ret (ret_cct rfl rfl rfl rfl (VYB.out.range mem2 (part_all _)) (VYB.out.range mem1 (part_all _)) Try.underlying30 rfl (sizePkt E10.out) Try.underlying45 rfl (sizeFl _ _)) rfl ?_
    exact ⟨A6, n6, by rw [H0.out]; rfl, VRS.out, VYB.out.below⟩
  · go_wp2_with fail
    refine wp_region_noPanic ?_
    refine wp_region_held_drew (S := (fun w' => w'.rangeAt w.heap.size 0 (pc k9 (.slice A6 n6 n6)) ∧ w'.rangeAt (w.heap.size + 1) 0 (flc T.code T.place))) (by kernel_rfl) S0.out (fun hHeld => ?_)
    refine wpAnyH_take (i := 0) (v := _) (by rfl) (by kernel_rfl) (by kernel_rfl) (by kernel_rfl) (fun _ _ _ h => h) (yieldsIf_load_mid (by rfl) _ _ (by rfl) _ _ rfl (pc k9 (.slice A6 n6 n6)) _ (fun _ h => h.1) Try.underlying30 rfl (sizePkt E10.out)) hHeld ?_
    try simp only [Act.put, List.setIfInBounds_toArray, List.set_cons_zero, List.set_cons_succ, List.getElem_toArray, List.getElem_cons_zero, List.getElem_cons_succ]
    refine wpAnyH_take (i := 1) (v := _) (by rfl) (by kernel_rfl) (by kernel_rfl) (by kernel_rfl) (fun _ _ _ h => h) (yieldsIf_load_mid (by rfl) _ _ (by rfl) _ _ rfl (flc T.code T.place) _ (fun _ h => h.2) Try.underlying45 rfl (sizeFl _ _)) hHeld ?_
    try simp only [Act.put, List.setIfInBounds_toArray, List.set_cons_zero, List.set_cons_succ, List.getElem_toArray, List.getElem_cons_zero, List.getElem_cons_succ]
    refine wpAnyH_take (i := 2) (v := ?_) (by rfl) (by kernel_rfl) (by kernel_rfl) (by kernel_rfl) (fun _ _ _ h => h) (Or.inl ⟨by rfl, ?_⟩) hHeld ?_
    rotate_left
    · intro w' hSw
      (try dsimp only at hSw)
      simp only [List.getElem_toArray, List.getElem_cons_zero, List.getElem_cons_succ]
      go_simp
      all_goals (try with_reducible rfl)
    try simp only [Act.put, List.setIfInBounds_toArray, List.set_cons_zero, List.set_cons_succ, List.getElem_toArray, List.getElem_cons_zero, List.getElem_cons_succ]
    refine wpAnyH_ready (rs := [3]) (by kernel_rfl) (by simp) ?_
    refine AllReadyH.cons (by rfl) (fun K hK => ?_) AllReadyH.nil
    simp only [List.getElem_toArray, List.getElem_cons_zero, List.getElem_cons_succ]
    refine wp_store_of (.tmp 2) (.tmp 65) rfl rfl rfl T12.out ?_
    (try dsimp only)
    refine hK.out _ _ S1.out (fun hHeld => ?_)
    clear hK K
    try simp only [Act.put, List.setIfInBounds_toArray, List.set_cons_zero, List.set_cons_succ, List.getElem_toArray, List.getElem_cons_zero, List.getElem_cons_succ]
    refine wpAnyH_ready (rs := [4]) (by kernel_rfl) (by simp) ?_
    refine AllReadyH.cons (by rfl) (fun K hK => ?_) AllReadyH.nil
    simp only [List.getElem_toArray, List.getElem_cons_zero, List.getElem_cons_succ]
    refine wp_store_of (.tmp 3) (.tmp 66) rfl rfl rfl T13.out ?_
    (try dsimp only)
    refine hK.out _ _ S2.out (fun hHeld => ?_)
    clear hK K
    try simp only [Act.put, List.setIfInBounds_toArray, List.set_cons_zero, List.set_cons_succ, List.getElem_toArray, List.getElem_cons_zero, List.getElem_cons_succ]
    refine wpAnyH_take (i := 5) (v := ?_) (by rfl) (by kernel_rfl) (by kernel_rfl) (by kernel_rfl) (fun _ _ _ h => h) (Or.inl ⟨by rfl, ?_⟩) hHeld ?_
    rotate_left
    · intro w' hSw
      (try dsimp only at hSw)
      simp only [List.getElem_toArray, List.getElem_cons_zero, List.getElem_cons_succ]
      go_simp
      all_goals (try with_reducible rfl)
    try simp only [Act.put, List.setIfInBounds_toArray, List.set_cons_zero, List.set_cons_succ, List.getElem_toArray, List.getElem_cons_zero, List.getElem_cons_succ]
    refine wpAnyH_done (by kernel_rfl) ?_ _
    refine NoPanic.normal ?_
    clear hHeld
    go_wp2_with fail
    refine bodyPost_ret (ret_cct rfl rfl rfl rfl (VYB.out.range mem2 (part_all _)) (VYB.out.range mem1 (part_all _)) Try.underlying30 rfl (sizePkt E10.out) Try.underlying45 rfl (sizeFl _ _)) rfl ?_
    exact ⟨A6, n6, by rw [H0.out]; rfl, VRS.out, VYB.out.below⟩

end Go.Proofs.Ytfkjfdmepeahnaa.Hd
