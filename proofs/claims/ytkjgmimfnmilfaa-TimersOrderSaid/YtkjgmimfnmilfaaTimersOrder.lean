/-
  TimersOrder: whatever was armed, each with its last time, is taken one by one in the order in which it comes ahead, each once; nothing that is later than now, and all that is not: the law returns true for every input, and its arguments read as before.
  Conditions: none.
-/
import Derived.Test.YtkjgmimfnmilfaaTmrL
import Derived.Test.YtkjgmimfnmilfaaTmrG
import Derived.Test.YtkjgmimfnmilfaaTmrK
import Derived.Test.YtkjgmimfnmilfaaLaw
namespace Go.Proofs.Ytkjgmimfnmilfaa.timersOrder
open Go.ChangeShapes Go.WideShapes Go.ChangeAt Go.RowKit Go.Proofs.Ytkjgmimfnmilfaa.Tm5 Go.Proofs.Ytkjgmimfnmilfaa.Ops

/-- the acts up to j are armed -/
def Armd (w wr : World) (s : Nat) (l : List Deed) (j : Nat) : Prop := ∃ L, Sd w wr s L [] ∧ (∀ x, x ∈ L ↔ La l j j x) ∧ L.length ≤ j
theorem armd_next {w : World} {s : Nat} {l : List Deed} {j : Nat} {L : List Tm} (h : ∀ x, x ∈ L ↔ La l j j x) (hl : L.length ≤ j) : ∀ wr', Sd w wr' s (put L (dx l j).x) [] → Armd w wr' s l (j + 1) := by
  intro wr' h'
  refine ⟨_, h', la_arm h, ?_⟩
  rw [put_len]
  split <;> omega
/-- those that count, up to i -/
def Wants (w wr : World) (s : Nat) (L : List Tm) (I : Option Addr) (m cc : Nat) (l : List Deed) (n i : Nat) (now : Int) (e : Nat) : Prop := ∃ W : List Deed, W.length = m ∧ Sw w wr s L [] (.slice I m cc) W ∧ (∀ x, x ∈ W.map (·.x) ↔ La l i n x) ∧ Kn (W.map (·.x)) ∧ e = cnt now (W.map (·.x))

theorem ahead_eq (a b : Deed) (w : World) {z : Bool} (hz : lt a.x b.x = z) : Calls Try.prog 17 #[.agg (dv a).toArray, .agg (dv b).toArray] w fun e w' => e = .returned (.bool z) ∧ Below w.heap.size w w' := by
  subst hz
  exact ahead_any a b w
theorem tm_ext {x y : Tm} (h1 : x.k = y.k) (h2 : x.t = y.t) : x = y := by
  cases x
  cases y
  simp at h1 h2
  rw [h1, h2]
/-- q are taken -/
def Tak (w wr : World) (s gw : Nat) (I : Option Addr) (m cc : Nat) (W : List Deed) (now : Int) (ee q : Nat) : Prop :=
  ∃ (L : List Tm) (u : Deed), Sw w wr s L [(gw, 35, (dv u).toArray)] (.slice I m cc) W ∧ (∀ y ∈ L, y ∈ W.map (·.x)) ∧ L.length + q = m ∧ (q < ee → cnt now L + q = ee) ∧ (ee ≤ q → cnt now L = 0) ∧ (0 < q → ∀ y ∈ L, lt u.x y = true)
structure TakF (W : List Deed) (L : List Tm) (now : Int) (m ee q : Nat) (u : Deed) : Prop where
  kn : Kn L
  ok : ∀ y ∈ L, y.ok
  sub : ∀ y ∈ L, y ∈ W.map (·.x)
  len : L.length + q = m
  c1 : q < ee → cnt now L + q = ee
  c2 : ee ≤ q → cnt now L = 0
  up : 0 < q → ∀ y ∈ L, lt u.x y = true
theorem tak_next {w wr : World} {s gw : Nat} {I : Option Addr} {m cc : Nat} {W : List Deed} {L : List Tm} {now : Int} {ee q : Nat} {u : Deed} {x : Tm} (h : TakF W L now m ee q u) (hx : Least L x) (hs : Sw w wr s (del L x.k) [(gw, 35, (dv ⟨0, x⟩).toArray)] (.slice I m cc) W) : Tak w wr s gw I m cc W now ee (q + 1) := by
  have hd := cnt_del (now := now) h.kn hx.1
  have hl := del_len h.kn hx.1
  have h1 := h.c1
  have h2 := h.c2
  have h3 := h.len
  refine ⟨_, _, hs, fun y hy => h.sub y (mem_del.1 hy).1, by omega, fun e => ?_, fun e => ?_, fun _ => least_del hx⟩
  · have h4 := h1 (by omega)
    rw [if_pos (cnt_early hx (by omega))] at hd
    omega
  · by_cases e2 : q < ee
    · have h4 := h1 e2
      rw [if_pos (cnt_early hx (by omega))] at hd
      omega
    · have h4 := h2 (by omega)
      omega

set_option maxRecDepth 20000 in
set_option maxHeartbeats 4000000 in
theorem walk (A : Option Addr) (n c : Nat) (l : List Deed) (now : Int) (w : World) (hl : l.length = n) (hn : n ≤ 140737488351232) (h : Deeds w A l) (hw : 0 ≤ now ∧ now ≤ 18446744073709551615) :
    Calls Try.prog 5 #[.slice A n c, .int .u64 now] w fun e w' => e = .returned (.bool true) ∧ Below w.heap.size w w' := by
  have HD := veil h
  have HL := veil hl
  have HN := veil hw
  clear h hl hw
  by_cases hbig : 256 < n
  · have hbig' : (256 : Int) < (n : Int) := by omega
    clear hbig
    go_enter Try.func5, Try.ntmps5
    go_wp2_with fail
    refine (lives_true _).mono ?_
    rintro e w9 ⟨rfl, q9⟩
    go_wp2_with fail
    go_ret
    exact ⟨rfl, q9⟩
  have hbig' : ¬ (256 : Int) < (n : Int) := by omega
  have hn6 : n ≤ 256 := by omega
  clear hbig
  go_enter Try.func5, Try.ntmps5
  go_wp2_with fail
  refine (sd_new w).mono ?_
  rintro e w1 ⟨rfl, h1⟩
  have S1 : Hid (Armd w w1 (w.heap.size + 2) l 0) := ⟨[], h1, fun x => by simp [La], Nat.le_refl _⟩
  clear h1
  generalize w.heap.size + 2 = s at *
  go_wp2_with fail
  go_loopw [6] (fun i wr => ∃ j : Nat, j ≤ n ∧ i = .int .i64 j ∧ Hid (Armd w wr s l j)) (fun i _ => n - (intOf i).toNat)
  case atStart => exact ⟨0, Nat.zero_le _, rfl, S1⟩
  case round =>
    clear S1
    obtain ⟨j, hj, rfl, hS⟩ := hrel
    obtain ⟨L, hsd, hla, hll⟩ := hS.out
    have SD := veil hsd
    have LA := veil hla
    have LL := veil hll
    clear hS hsd hla hll
    by_cases hlt : j < n
    · obtain ⟨a, rfl, hx0⟩ := HD.out j (by rw [HL.out]; exact hlt)
      have hx := hx0.keep SD.out.bel
      obtain ⟨k0, k1, k2, k3, kok⟩ := hx
      have KOK : Hid (dx l j).ok := kok
      have e0 : l.getD j default = dx l j := rfl
      rw [e0] at k0 k1 k2 k3
      have AN := veil (armd_next (w := w) (s := s) LA.out LL.out)
      clear hx0 e0 kok k0
      generalize dx l j = d at *
      go_wp2_with fail
      go_still_tail 11, (by kernel_rfl)
      change wpList _ _ _ _ _ wr.drew
      clear k1 k2 k3
      have D := veil SD.out.drew
      clear SD
      generalize wr.drew = w2 at *
      go_wp2_with fail
      refine (sd_arm D.out d.x KOK.out.x (.inr (by have := LL.out; omega)) _ rfl).mono ?_
      rintro e w3 ⟨rfl, h3⟩
      have Z : Hid (Armd w w3 s l (j + 1)) := AN.out _ h3
      clear h3 AN D
      go_wp2_with fail
      go_roundw
      case rel => exact ⟨j + 1, by omega, by go_num, Z⟩
      case measure => simp [intOf]; omega
    · have hjn : j = n := by omega
      rw [hjn] at LA
      have hlt' : ¬ (j : Int) < (n : Int) := by omega
      have SW : Hid (Wants w wr s L none 0 0 l n 0 now 0) := ⟨[], rfl, sw_nil SD.out, fun x => by simp [La], kn_nil, rfl⟩
      clear SD hlt hj hjn
      go_wp2_with fail
      go_loopw [7, 8, 9] (fun u7 u8 u9 wr => ∃ (i m e cc : Nat) (I : Option Addr), i ≤ n ∧ u9 = .int .i64 i ∧ u8 = .int .i64 e ∧ u7 = .slice I m cc ∧ m ≤ i ∧ e ≤ i ∧ Hid (Wants w wr s L I m cc l n i now e)) (fun _ _ u9 _ => n - (intOf u9).toNat)
      case atStart => exact ⟨0, 0, 0, 0, none, Nat.zero_le _, rfl, rfl, rfl, Nat.le_refl _, Nat.le_refl _, SW⟩
      case round =>
        clear SW hlt'
        rename_i wr1 _
        obtain ⟨i, m, ee, cc, I, hi, rfl, rfl, rfl, hmi, hei, hS⟩ := hrel
        obtain ⟨W, hWl, hSW, hLa, hKn, hEe⟩ := hS.out
        have WL := veil hWl
        have SW := veil hSW
        have LW := veil hLa
        have KW := veil hKn
        have EE := veil hEe
        clear hS hWl hSW hLa hKn hEe
        by_cases hlt : i < n
        · obtain ⟨a, rfl, hx0⟩ := HD.out i (by rw [HL.out]; exact hlt)
          have X0 := veil hx0
          clear hx0
          go_wp2_with fail
          have LZ : Hid (true = true ↔ Lz l i (i + 1)) := ⟨fun _ d h1 h2 => by omega, fun _ => rfl⟩
          go_loopw [10, 11] (fun u10 u11 wr => ∃ (k : Nat) (b : Bool), i + 1 ≤ k ∧ k ≤ n ∧ u11 = .int .i64 k ∧ u10 = .bool b ∧ Hid (b = true ↔ Lz l i k) ∧ Hid (Sw w wr s L [] (.slice I m cc) W)) (fun _ u11 _ => n - (intOf u11).toNat)
          case atStart => exact ⟨i + 1, true, Nat.le_refl _, by omega, by go_num, rfl, LZ, SW⟩
          case round =>
            clear LZ SW
            obtain ⟨k, b, hik, hk, rfl, rfl, LZ, SW⟩ := hrel
            by_cases hkn : k < n
            · obtain ⟨a', ha', hy0⟩ := HD.out k (by rw [HL.out]; exact hkn)
              injection ha' with ha'
              subst ha'
              obtain ⟨_, k1, k2, _, kok⟩ := X0.out.keep SW.out.bel
              obtain ⟨_, y1, y2, _, yok⟩ := hy0.keep SW.out.bel
              have e0 : l.getD i default = dx l i := rfl
              have e1 : l.getD k default = dx l k := rfl
              rw [e0] at k1 k2 kok
              rw [e1] at y1 y2 yok
              clear hy0 e0 e1
              cases b with
              | false =>
                have ZN : Hid (false = true ↔ Lz l i (k + 1)) := ⟨fun e => Bool.noConfusion e, fun e => LZ.out.2 (fun d h1 h2 => e d h1 (by omega))⟩
                clear k1 k2 y1 y2
                go_wp2_with fail
                go_quiet (fail)
                go_wp2_with fail
                go_roundw
                case rel => exact ⟨k + 1, false, by omega, by omega, by go_num, rfl, ZN, SW.out.drew _⟩
                case measure => simp [intOf]; omega
              | true =>
                have ZN : Hid ((!sameK (dx l k).x.k (dx l i).x.k) = true ↔ Lz l i (k + 1)) := by
                  show _ ↔ _
                  have h0 := LZ.out.1 rfl
                  rw [Bool.not_eq_true', sameK_no]
                  exact ⟨fun e d h1 h2 => by
                    by_cases q : d = k
                    · subst q; exact e
                    · exact h0 d h1 (by omega), fun e => e k (by omega) (by omega)⟩
                obtain ⟨z, hz⟩ : ∃ z, sameK (dx l k).x.k (dx l i).x.k = z := ⟨_, rfl⟩
                have hb := neq_key yok.x.k kok.x.k hz
                rw [hz] at ZN
                clear hz kok yok
                generalize dx l i = di at *
                generalize dx l k = dk at *
                go_wp2_with fail
                go_quiet (fail)
                clear hb
                go_wp2_with fail
                go_roundw
                case rel => exact ⟨k + 1, !z, by omega, by omega, by go_num, rfl, ZN, SW.out.drew _⟩
                case measure => simp [intOf]; omega
            · have hkn' : k = n := by omega
              rw [hkn'] at LZ
              have hkn2 : ¬ (k : Int) < (n : Int) := by omega
              clear hkn hkn' hik hk
              cases b with
              | false =>
                have ZW : Hid (Wants w wr s L I m cc l n (i + 1) now ee) := ⟨W, WL.out, SW.out, la_no LW.out (fun e => Bool.noConfusion (LZ.out.2 e)), KW.out, EE.out⟩
                clear X0 SW LZ
                go_wp2_with fail
                go_roundw
                case rel => exact ⟨i + 1, m, ee, cc, I, by omega, by go_num, rfl, rfl, by omega, by omega, ZW⟩
                case measure => simp [intOf]; omega
              | true =>
                have hz := LZ.out.1 rfl
                have LN := veil (la_yes LW.out hz)
                have KN := veil (la_kn hlt LW.out KW.out)
                obtain ⟨k0, k1, k2, k3, kok⟩ := X0.out.keep SW.out.bel
                have e0 : l.getD i default = dx l i := rfl
                rw [e0] at k0 k1 k2 k3 kok
                have CN := veil (cnt_snoc now (W.map (·.x)) (dx l i).x)
                generalize hdi : dx l i = d at *
                have rn : Row (wr.alloc (.cells #[.int .u8 d.kd, .int .u8 d.x.k.kd, .int .u64 d.x.k.id, .int .u64 d.x.t] 35)) wr.heap.size 35 #[.int .u8 d.kd, .int .u8 d.x.k.kd, .int .u64 d.x.k.id, .int .u64 d.x.t] := row_new rfl
                obtain ⟨v', w3, hrun, h3⟩ := (SW.out.keep (below_new wr (.cells #[.int .u8 d.kd, .int .u8 d.x.k.kd, .int .u64 d.x.k.id, .int .u64 d.x.t] 35))).more d 22 ⟨wr.heap.size, 0, none⟩ 1 (fun jj u hu => by
                  have hadd : (⟨wr.heap.size, 0, none⟩ : Addr).add jj = ⟨wr.heap.size, jj, none⟩ := by unfold Addr.add; split <;> simp_all
                  rw [hadd, rn.cell]
                  simpa [dv] using hu) (by rw [WL.out]; omega)
                obtain ⟨I', cc', rfl, _⟩ := h3.ld.slice
                have wl' : (W ++ [d]).length = m + 1 := by simp [WL.out]
                rw [wl'] at h3 hrun
                have HR := veil hrun
                have S3 := veil h3
                have WL' := veil wl'
                obtain ⟨_, _, _, c3, _⟩ := X0.out.keep h3.bel
                rw [e0] at c3
                clear hrun h3 wl' rn X0 SW LZ hz e0 hdi kok
                by_cases ht : d.x.t ≤ now
                · have ZW : Hid (Wants w w3 s L I' (m + 1) cc' l n (i + 1) now (ee + 1)) := ⟨W ++ [d], WL'.out, S3.out, LN.out, KN.out, by rw [List.map_append]; exact (by rw [EE.out]; have := CN.out; rw [if_pos ht] at this; exact this.symm)⟩
                  clear S3
                  go_wp2_with (first | (at_builtin; refine wpList_append_w rfl (.tmp 80) (.tmp 85) rfl rfl rfl HR.out ?_))
                  go_roundw
                  case rel => exact ⟨i + 1, m + 1, ee + 1, cc', I', by omega, by go_num, by go_num, by go_num, by omega, by omega, ZW⟩
                  case measure => simp [intOf]; omega
                · have ZW : Hid (Wants w w3 s L I' (m + 1) cc' l n (i + 1) now ee) := ⟨W ++ [d], WL'.out, S3.out, LN.out, KN.out, by rw [List.map_append]; exact (by rw [EE.out]; have := CN.out; rw [if_neg ht] at this; exact this.symm)⟩
                  clear S3
                  have ht' : now < d.x.t := by omega
                  clear ht
                  go_wp2_with (first | (at_builtin; refine wpList_append_w rfl (.tmp 80) (.tmp 85) rfl rfl rfl HR.out ?_))
                  go_roundw
                  case rel => exact ⟨i + 1, m + 1, ee, cc', I', by omega, by go_num, by go_num, by go_num, by omega, by omega, ZW⟩
                  case measure => simp [intOf]; omega
        · have hin : i = n := by omega
          have hin2 : ¬ (i : Int) < (n : Int) := by omega
          rw [hin] at LW
          have XL : Hid ((W.map (·.x)).length = m) := by show _ = _; rw [List.length_map, WL.out]
          have S0 := veil (SW.out.same KW.out (fun x => (LA.out x).trans (LW.out x).symm))
          have hm6 : m ≤ 256 := by omega
          have he6 : ee ≤ m := by rw [EE.out, ← XL.out]; exact cnt_le _ _
          have WOK : Hid (∀ p, p < m → (dx W p).x.k.ok) := fun p hp => by
            have h1 : (dx W p).x ∈ W.map (·.x) := List.mem_map.2 ⟨dx W p, by unfold dx; rw [List.getD_eq_getElem?_getD, List.getElem?_eq_getElem (by rw [WL.out]; exact hp)]; exact List.getElem_mem _, rfl⟩
            exact (S0.out.sd.ok _ h1).k
          clear SW LA LW LL hlt hin hi HD HL hei hmi
          go_wp2_with fail
          refine (sw_len S0.out m XL.out).mono ?_
          rintro e w9 ⟨rfl, rfl⟩
          have S1 := veil (S0.out.alloc 35 (dv ⟨0, ⟨⟨0, 0⟩, 0⟩⟩).toArray)
          have GW := veil S0.out.bel.size
          clear S0
          have T0 : Hid (Tak w (wr.alloc (.cells #[.int .u8 0, .int .u8 0, .int .u64 0, .int .u64 0] 35)) s wr.heap.size I m cc W now ee 0) := ⟨_, _, S1.out, fun _ hy => hy, by rw [XL.out]; rfl, fun _ => by rw [EE.out]; rfl, fun e0 => by have := EE.out; omega, fun e => absurd e (by omega)⟩
          clear S1 KW XL EE
          go_wp2_with fail
          generalize wr.alloc (.cells #[.int .u8 0, .int .u8 0, .int .u64 0, .int .u64 0] 35) = w2 at *
          generalize wr.heap.size = gw at *
          go_loopw [13] (fun u13 wr => ∃ q : Nat, q ≤ m ∧ u13 = .int .i64 q ∧ Hid (Tak w wr s gw I m cc W now ee q)) (fun u13 _ => m - (intOf u13).toNat)
          case atStart => exact ⟨0, Nat.zero_le _, rfl, T0⟩
          case round =>
            clear T0
            obtain ⟨q, hq, rfl, hT⟩ := hrel
            obtain ⟨L4, u, hsw, hsub, hlen, hc1, hc2, hlt⟩ := hT.out
            have TK := veil (show TakF W L4 now m ee q u from ⟨hsw.sd.kn, hsw.sd.ok, hsub, hlen, hc1, hc2, hlt⟩)
            have SW := veil hsw
            clear hT hsw hsub hlen hc1 hc2 hlt
            by_cases hqm : q < m
            · obtain ⟨x, hx⟩ := SW.out.sd.least (by rintro rfl; have := TK.out.len; simp at this; omega)
              have LX := veil hx
              have XOK := veil (TK.out.ok x hx.1)
              have XIN := veil (TK.out.sub x hx.1)
              clear hx
              by_cases hqe : q < ee
              · have hqe' : (q : Int) < (ee : Int) := by omega
                have XN := veil (cnt_early (now := now) LX.out (by have := TK.out.c1 hqe; omega))
                clear hqe
                go_wp2_with fail
                refine (sw_due SW.out now x true (del L4 x.k) (.inr ⟨rfl, LX.out, XN.out, rfl⟩)).mono ?_
                rintro e w4 ⟨rfl, h4⟩
                clear XN
                have S4 := veil ((h4.alloc 33 #[.int .u8 x.k.kd, .int .u64 x.k.id]).alloc 35 (dv ⟨0, x⟩).toArray)
                have hz8 : (w4.alloc (.cells #[.int .u8 x.k.kd, .int .u64 x.k.id] 33)).heap.size = w4.heap.size + 1 := by simp
                rw [hz8] at S4
                have S5 : Hid (Sw w ((w4.alloc (.cells #[.int .u8 x.k.kd, .int .u64 x.k.id] 33)).alloc (.cells #[.int .u8 0, .int .u8 x.k.kd, .int .u64 x.k.id, .int .u64 x.t] 35)) s (del L4 x.k) [(w4.heap.size + 1, 35, (dv ⟨0, x⟩).toArray), (w4.heap.size, 33, #[.int .u8 x.k.kd, .int .u64 x.k.id]), (gw, 35, (dv u).toArray)] (.slice I m cc) W) := S4
                clear h4 SW S4 hz8
                go_wp2_with fail
                generalize (w4.alloc (.cells #[.int .u8 x.k.kd, .int .u64 x.k.id] 33)).alloc (.cells #[.int .u8 0, .int .u8 x.k.kd, .int .u64 x.k.id, .int .u64 x.t] 35) = w5 at *
                generalize w4.heap.size + 1 = g21 at *
                generalize w4.heap.size = g18 at *
                have IS0 : Hid (false = true ↔ ∃ p, p < 0 ∧ (dx W p).x = x) := ⟨fun e => Bool.noConfusion e, fun ⟨p, h, _⟩ => absurd h (by omega)⟩
                go_loopw [22, 23] (fun u22 u23 wr => ∃ (p : Nat) (b : Bool), p ≤ m ∧ u23 = .int .i64 p ∧ u22 = .bool b ∧ Hid (b = true ↔ ∃ p', p' < p ∧ (dx W p').x = x) ∧ Hid (Sw w wr s (del L4 x.k) [(g21, 35, (dv ⟨0, x⟩).toArray), (g18, 33, #[.int .u8 x.k.kd, .int .u64 x.k.id]), (gw, 35, (dv u).toArray)] (.slice I m cc) W)) (fun _ u23 _ => m - (intOf u23).toNat)
                case atStart => exact ⟨0, false, Nat.zero_le _, rfl, rfl, IS0, S5⟩
                case round =>
                  clear IS0 S5
                  obtain ⟨p, b, hp, rfl, rfl, IS, SW⟩ := hrel
                  by_cases hpm : p < m
                  · cases b with
                    | true =>
                      have IN : Hid (∃ p', p' < p + 1 ∧ (dx W p').x = x) := by
                        obtain ⟨p', h1, h2⟩ := IS.out.1 rfl
                        exact ⟨p', by omega, h2⟩
                      clear IS
                      go_wp2_with fail
                      go_quiet (fail)
                      go_wp2_with fail
                      go_roundw
                      case rel => exact ⟨p + 1, true, by omega, by go_num, rfl, ⟨fun _ => IN.out, fun _ => rfl⟩, SW.out.drew _⟩
                      case measure => simp [intOf]; omega
                    | false =>
                      obtain ⟨g, cap, rest, hv, hr⟩ := (SW.out.ld.row).resolve_left (fun e => by have := WL.out; rw [e.2] at this; simp at this; omega)
                      injection hv with hv1 hv2 hv3
                      subst hv1 hv3
                      have y1 : wr.cell? ⟨g, p * 4 + 1, none⟩ = some (.int .u8 (dx W p).x.k.kd) := cell_gd hr.1 (by rw [WL.out]; exact hpm) 1 (by omega)
                      have y2 : wr.cell? ⟨g, p * 4 + 2, none⟩ = some (.int .u64 (dx W p).x.k.id) := cell_gd hr.1 (by rw [WL.out]; exact hpm) 2 (by omega)
                      have y3 : wr.cell? ⟨g, p * 4 + 3, none⟩ = some (.int .u64 (dx W p).x.t) := cell_gd hr.1 (by rw [WL.out]; exact hpm) 3 (by omega)
                      have k8 := SW.out.row (g := g18) (t := 33) (cs := #[.int .u8 x.k.kd, .int .u64 x.k.id]) (by simp)
                      have z0 : wr.cell? ⟨g18, 0, none⟩ = some (.int .u8 x.k.kd) := k8.cell 0
                      have z1 : wr.cell? ⟨g18, 1, none⟩ = some (.int .u64 x.k.id) := k8.cell 1
                      have IN : Hid ((sameK (dx W p).x.k x.k && decide ((dx W p).x.t = x.t)) = true ↔ ∃ p', p' < p + 1 ∧ (dx W p').x = x) := by
                        show _ ↔ _
                        rw [Bool.and_eq_true, sameK_iff, decide_eq_true_iff]
                        constructor
                        · rintro ⟨h1, h2⟩
                          exact ⟨p, by omega, tm_ext h1 h2⟩
                        · rintro ⟨p', h1, h2⟩
                          by_cases e : p' = p
                          · subst e
                            rw [h2]
                            exact ⟨rfl, rfl⟩
                          · exact absurd (IS.out.2 ⟨p', by omega, h2⟩) (fun e => Bool.noConfusion e)
                      have DOK := veil (WOK.out p hpm)
                      clear hr k8 IS
                      generalize dx W p = d at *
                      cases hz : sameK d.x.k x.k with
                      | false =>
                        have hb := eql_key DOK.out XOK.out.k hz
                        rw [hz] at IN
                        clear hz
                        go_wp2_with fail
                        go_quiet (fail)
                        clear hb
                        go_wp2_with fail
                        go_roundw
                        case rel => exact ⟨p + 1, false, by omega, by go_num, rfl, IN, SW.out.drew _⟩
                        case measure => simp [intOf]; omega
                      | true =>
                        have hb := eql_key DOK.out XOK.out.k hz
                        rw [hz] at IN
                        clear hz
                        obtain ⟨z, hzt⟩ : ∃ z, decide (d.x.t = x.t) = z := ⟨_, rfl⟩
                        have hzt' : (d.x.t == x.t) = z := hzt
                        rw [hzt] at IN
                        clear hzt
                        go_wp2_with fail
                        go_quiet (fail)
                        clear hb
                        go_wp2_with fail
                        go_roundw
                        case rel => exact ⟨p + 1, z, by omega, by go_num, rfl, IN, SW.out.drew _⟩
                        case measure => simp [intOf]; omega
                  · have hpm' : p = m := by omega
                    have hpm2 : ¬ (p : Int) < (m : Int) := by omega
                    have hb : b = true := IS.out.2 (by
                      obtain ⟨d, hd, e⟩ := List.mem_map.1 XIN.out
                      obtain ⟨p', h1, h2⟩ := List.getElem_of_mem hd
                      exact ⟨p', by rw [hpm', ← WL.out]; exact h1, by unfold dx; rw [List.getD_eq_getElem?_getD, List.getElem?_eq_getElem h1]; show (W[p']).x = x; rw [h2]; exact e⟩)
                    subst hb
                    have DL := veil (del_len TK.out.kn LX.out.1)
                    obtain ⟨r, hr⟩ : ∃ r, (del L4 x.k).length = r := ⟨_, rfl⟩
                    have hr1 : (m : Int) - 1 - (q : Int) = (r : Int) := by have := DL.out; have := TK.out.len; omega
                    have hr2 : r ≤ 256 := by have := DL.out; have := TK.out.len; omega
                    have HRL := veil hr
                    have RU := veil (SW.out.row (g := gw) (t := 35) (cs := (dv u).toArray) (by simp))
                    have RX := veil (SW.out.row (g := g21) (t := 35) (cs := (dv ⟨0, x⟩).toArray) (by simp))
                    clear IS hpm hpm' hp XIN hr DL
                    by_cases hq0 : q = 0
                    · have hq1 : (q : Int) ≤ 0 := by omega
                      clear hq0
                      go_wp2_with fail
                      refine (sw_len SW.out r HRL.out).mono ?_
                      rintro e w7 ⟨rfl, rfl⟩
                      have u0 : wr.cell? ⟨gw, 0, none⟩ = some (.int .u8 u.kd) := RU.out.cell 0
                      have u1 : wr.cell? ⟨gw, 1, none⟩ = some (.int .u8 u.x.k.kd) := RU.out.cell 1
                      have u2 : wr.cell? ⟨gw, 2, none⟩ = some (.int .u64 u.x.k.id) := RU.out.cell 2
                      have u3 : wr.cell? ⟨gw, 3, none⟩ = some (.int .u64 u.x.t) := RU.out.cell 3
                      have x0 : wr.cell? ⟨g21, 0, none⟩ = some (.int .u8 0) := RX.out.cell 0
                      have x1 : wr.cell? ⟨g21, 1, none⟩ = some (.int .u8 x.k.kd) := RX.out.cell 1
                      have x2 : wr.cell? ⟨g21, 2, none⟩ = some (.int .u64 x.k.id) := RX.out.cell 2
                      have x3 : wr.cell? ⟨g21, 3, none⟩ = some (.int .u64 x.t) := RX.out.cell 3
                      have f0 : wr.frozen? ⟨gw, 0, none⟩ = false := RU.out.frozen 0
                      have f1 : wr.frozen? ⟨gw, 1, none⟩ = false := RU.out.frozen 1
                      have f2 : wr.frozen? ⟨gw, 2, none⟩ = false := RU.out.frozen 2
                      have f3 : wr.frozen? ⟨gw, 3, none⟩ = false := RU.out.frozen 3
                      have RN := veil ((((RU.out.set 0 (.int .u8 0)).set 1 (.int .u8 x.k.kd)).set 2 (.int .u64 x.k.id)).set 3 (.int .u64 x.t))
                      have KN : Hid (Kept [gw] wr ((((wr.setCell ⟨gw, 0, none⟩ (.int .u8 0)).setCell ⟨gw, 1, none⟩ (.int .u8 x.k.kd)).setCell ⟨gw, 2, none⟩ (.int .u64 x.k.id)).setCell ⟨gw, 3, none⟩ (.int .u64 x.t))) := (((kept_set (by simp)).trans' (kept_set (by simp))).trans' (kept_set (by simp))).trans' (kept_set (by simp))
                      have ZT : Hid (Tak w ((((wr.setCell ⟨gw, 0, none⟩ (.int .u8 0)).setCell ⟨gw, 1, none⟩ (.int .u8 x.k.kd)).setCell ⟨gw, 2, none⟩ (.int .u64 x.k.id)).setCell ⟨gw, 3, none⟩ (.int .u64 x.t)) s gw I m cc W now ee (q + 1)) := tak_next TK.out LX.out (SW.out.write (g := gw) (t := 35) (cs := (dv u).toArray) (by simp) GW.out KN.out RN.out)
                      clear RN KN RU RX SW
                      go_wp2_with fail
                      go_roundw
                      case rel => exact ⟨q + 1, by omega, by go_num, ZT⟩
                      case measure => simp [intOf]; omega
                    · have hq1 : (0 : Int) < (q : Int) := by omega
                      have UP := veil (TK.out.up (by omega) x LX.out.1)
                      clear hq0
                      have u0 : wr.cell? ⟨gw, 0, none⟩ = some (.int .u8 u.kd) := RU.out.cell 0
                      have u1 : wr.cell? ⟨gw, 1, none⟩ = some (.int .u8 u.x.k.kd) := RU.out.cell 1
                      have u2 : wr.cell? ⟨gw, 2, none⟩ = some (.int .u64 u.x.k.id) := RU.out.cell 2
                      have u3 : wr.cell? ⟨gw, 3, none⟩ = some (.int .u64 u.x.t) := RU.out.cell 3
                      have x0 : wr.cell? ⟨g21, 0, none⟩ = some (.int .u8 0) := RX.out.cell 0
                      have x1 : wr.cell? ⟨g21, 1, none⟩ = some (.int .u8 x.k.kd) := RX.out.cell 1
                      have x2 : wr.cell? ⟨g21, 2, none⟩ = some (.int .u64 x.k.id) := RX.out.cell 2
                      have x3 : wr.cell? ⟨g21, 3, none⟩ = some (.int .u64 x.t) := RX.out.cell 3
                      go_wp2_with fail
                      clear u0 u1 u2 u3 x0 x1 x2 x3
                      refine (ahead_eq u ⟨0, x⟩ _ UP.out).mono ?_
                      rintro e w6 ⟨rfl, h6⟩
                      have SW := veil (SW.out.keep h6)
                      have RU := veil (RU.out.keep h6)
                      have RX := veil (RX.out.keep h6)
                      clear h6
                      go_wp2_with fail
                      refine (sw_len SW.out r HRL.out).mono ?_
                      rintro e w7 ⟨rfl, rfl⟩
                      generalize w6 = wr at *
                      have u0 : wr.cell? ⟨gw, 0, none⟩ = some (.int .u8 u.kd) := RU.out.cell 0
                      have u1 : wr.cell? ⟨gw, 1, none⟩ = some (.int .u8 u.x.k.kd) := RU.out.cell 1
                      have u2 : wr.cell? ⟨gw, 2, none⟩ = some (.int .u64 u.x.k.id) := RU.out.cell 2
                      have u3 : wr.cell? ⟨gw, 3, none⟩ = some (.int .u64 u.x.t) := RU.out.cell 3
                      have x0 : wr.cell? ⟨g21, 0, none⟩ = some (.int .u8 0) := RX.out.cell 0
                      have x1 : wr.cell? ⟨g21, 1, none⟩ = some (.int .u8 x.k.kd) := RX.out.cell 1
                      have x2 : wr.cell? ⟨g21, 2, none⟩ = some (.int .u64 x.k.id) := RX.out.cell 2
                      have x3 : wr.cell? ⟨g21, 3, none⟩ = some (.int .u64 x.t) := RX.out.cell 3
                      have f0 : wr.frozen? ⟨gw, 0, none⟩ = false := RU.out.frozen 0
                      have f1 : wr.frozen? ⟨gw, 1, none⟩ = false := RU.out.frozen 1
                      have f2 : wr.frozen? ⟨gw, 2, none⟩ = false := RU.out.frozen 2
                      have f3 : wr.frozen? ⟨gw, 3, none⟩ = false := RU.out.frozen 3
                      have RN := veil ((((RU.out.set 0 (.int .u8 0)).set 1 (.int .u8 x.k.kd)).set 2 (.int .u64 x.k.id)).set 3 (.int .u64 x.t))
                      have KN : Hid (Kept [gw] wr ((((wr.setCell ⟨gw, 0, none⟩ (.int .u8 0)).setCell ⟨gw, 1, none⟩ (.int .u8 x.k.kd)).setCell ⟨gw, 2, none⟩ (.int .u64 x.k.id)).setCell ⟨gw, 3, none⟩ (.int .u64 x.t))) := (((kept_set (by simp)).trans' (kept_set (by simp))).trans' (kept_set (by simp))).trans' (kept_set (by simp))
                      have ZT : Hid (Tak w ((((wr.setCell ⟨gw, 0, none⟩ (.int .u8 0)).setCell ⟨gw, 1, none⟩ (.int .u8 x.k.kd)).setCell ⟨gw, 2, none⟩ (.int .u64 x.k.id)).setCell ⟨gw, 3, none⟩ (.int .u64 x.t)) s gw I m cc W now ee (q + 1)) := tak_next TK.out LX.out (SW.out.write (g := gw) (t := 35) (cs := (dv u).toArray) (by simp) GW.out KN.out RN.out)
                      clear RN KN RU RX SW
                      go_wp2_with fail
                      go_roundw
                      case rel => exact ⟨q + 1, by omega, by go_num, ZT⟩
                      case measure => simp [intOf]; omega
              · have hqe' : (ee : Int) ≤ (q : Int) := by omega
                have XN := veil (cnt_late (now := now) LX.out (TK.out.c2 (by omega)))
                clear hqe
                go_wp2_with fail
                refine (sw_due SW.out now ⟨⟨0, 0⟩, 0⟩ false L4 (.inl ⟨rfl, rfl, rfl, .inr ⟨x, LX.out, XN.out⟩⟩)).mono ?_
                rintro e w3 ⟨rfl, h3⟩
                have SW := veil (h3.keep (below_new w3 (.cells #[.int .u8 0, .int .u64 0] 33)))
                clear h3 XN
                go_wp2_with fail
                generalize w3.alloc (.cells #[.int .u8 0, .int .u64 0] 33) = w3' at *
                generalize w3.heap.size = g15 at *
                refine (sw_due SW.out 18446744073709551615 x true (del L4 x.k) (.inr ⟨rfl, LX.out, XOK.out.c1, rfl⟩)).mono ?_
                rintro e w4 ⟨rfl, h4⟩
                have S4 := veil ((h4.alloc 33 #[.int .u8 x.k.kd, .int .u64 x.k.id]).alloc 35 (dv ⟨0, x⟩).toArray)
                have hz8 : (w4.alloc (.cells #[.int .u8 x.k.kd, .int .u64 x.k.id] 33)).heap.size = w4.heap.size + 1 := by simp
                rw [hz8] at S4
                have S5 : Hid (Sw w ((w4.alloc (.cells #[.int .u8 x.k.kd, .int .u64 x.k.id] 33)).alloc (.cells #[.int .u8 0, .int .u8 x.k.kd, .int .u64 x.k.id, .int .u64 x.t] 35)) s (del L4 x.k) [(w4.heap.size + 1, 35, (dv ⟨0, x⟩).toArray), (w4.heap.size, 33, #[.int .u8 x.k.kd, .int .u64 x.k.id]), (gw, 35, (dv u).toArray)] (.slice I m cc) W) := S4
                clear h4 SW S4 hz8
                go_wp2_with fail
                generalize (w4.alloc (.cells #[.int .u8 x.k.kd, .int .u64 x.k.id] 33)).alloc (.cells #[.int .u8 0, .int .u8 x.k.kd, .int .u64 x.k.id, .int .u64 x.t] 35) = w5 at *
                generalize w4.heap.size + 1 = g21 at *
                generalize w4.heap.size = g18 at *
                have IS0 : Hid (false = true ↔ ∃ p, p < 0 ∧ (dx W p).x = x) := ⟨fun e => Bool.noConfusion e, fun ⟨p, h, _⟩ => absurd h (by omega)⟩
                go_loopw [22, 23] (fun u22 u23 wr => ∃ (p : Nat) (b : Bool), p ≤ m ∧ u23 = .int .i64 p ∧ u22 = .bool b ∧ Hid (b = true ↔ ∃ p', p' < p ∧ (dx W p').x = x) ∧ Hid (Sw w wr s (del L4 x.k) [(g21, 35, (dv ⟨0, x⟩).toArray), (g18, 33, #[.int .u8 x.k.kd, .int .u64 x.k.id]), (gw, 35, (dv u).toArray)] (.slice I m cc) W)) (fun _ u23 _ => m - (intOf u23).toNat)
                case atStart => exact ⟨0, false, Nat.zero_le _, rfl, rfl, IS0, S5⟩
                case round =>
                  clear IS0 S5
                  obtain ⟨p, b, hp, rfl, rfl, IS, SW⟩ := hrel
                  by_cases hpm : p < m
                  · cases b with
                    | true =>
                      have IN : Hid (∃ p', p' < p + 1 ∧ (dx W p').x = x) := by
                        obtain ⟨p', h1, h2⟩ := IS.out.1 rfl
                        exact ⟨p', by omega, h2⟩
                      clear IS
                      go_wp2_with fail
                      go_quiet (fail)
                      go_wp2_with fail
                      go_roundw
                      case rel => exact ⟨p + 1, true, by omega, by go_num, rfl, ⟨fun _ => IN.out, fun _ => rfl⟩, SW.out.drew _⟩
                      case measure => simp [intOf]; omega
                    | false =>
                      obtain ⟨g, cap, rest, hv, hr⟩ := (SW.out.ld.row).resolve_left (fun e => by have := WL.out; rw [e.2] at this; simp at this; omega)
                      injection hv with hv1 hv2 hv3
                      subst hv1 hv3
                      have y1 : wr.cell? ⟨g, p * 4 + 1, none⟩ = some (.int .u8 (dx W p).x.k.kd) := cell_gd hr.1 (by rw [WL.out]; exact hpm) 1 (by omega)
                      have y2 : wr.cell? ⟨g, p * 4 + 2, none⟩ = some (.int .u64 (dx W p).x.k.id) := cell_gd hr.1 (by rw [WL.out]; exact hpm) 2 (by omega)
                      have y3 : wr.cell? ⟨g, p * 4 + 3, none⟩ = some (.int .u64 (dx W p).x.t) := cell_gd hr.1 (by rw [WL.out]; exact hpm) 3 (by omega)
                      have k8 := SW.out.row (g := g18) (t := 33) (cs := #[.int .u8 x.k.kd, .int .u64 x.k.id]) (by simp)
                      have z0 : wr.cell? ⟨g18, 0, none⟩ = some (.int .u8 x.k.kd) := k8.cell 0
                      have z1 : wr.cell? ⟨g18, 1, none⟩ = some (.int .u64 x.k.id) := k8.cell 1
                      have IN : Hid ((sameK (dx W p).x.k x.k && decide ((dx W p).x.t = x.t)) = true ↔ ∃ p', p' < p + 1 ∧ (dx W p').x = x) := by
                        show _ ↔ _
                        rw [Bool.and_eq_true, sameK_iff, decide_eq_true_iff]
                        constructor
                        · rintro ⟨h1, h2⟩
                          exact ⟨p, by omega, tm_ext h1 h2⟩
                        · rintro ⟨p', h1, h2⟩
                          by_cases e : p' = p
                          · subst e
                            rw [h2]
                            exact ⟨rfl, rfl⟩
                          · exact absurd (IS.out.2 ⟨p', by omega, h2⟩) (fun e => Bool.noConfusion e)
                      have DOK := veil (WOK.out p hpm)
                      clear hr k8 IS
                      generalize dx W p = d at *
                      cases hz : sameK d.x.k x.k with
                      | false =>
                        have hb := eql_key DOK.out XOK.out.k hz
                        rw [hz] at IN
                        clear hz
                        go_wp2_with fail
                        go_quiet (fail)
                        clear hb
                        go_wp2_with fail
                        go_roundw
                        case rel => exact ⟨p + 1, false, by omega, by go_num, rfl, IN, SW.out.drew _⟩
                        case measure => simp [intOf]; omega
                      | true =>
                        have hb := eql_key DOK.out XOK.out.k hz
                        rw [hz] at IN
                        clear hz
                        obtain ⟨z, hzt⟩ : ∃ z, decide (d.x.t = x.t) = z := ⟨_, rfl⟩
                        have hzt' : (d.x.t == x.t) = z := hzt
                        rw [hzt] at IN
                        clear hzt
                        go_wp2_with fail
                        go_quiet (fail)
                        clear hb
                        go_wp2_with fail
                        go_roundw
                        case rel => exact ⟨p + 1, z, by omega, by go_num, rfl, IN, SW.out.drew _⟩
                        case measure => simp [intOf]; omega
                  · have hpm' : p = m := by omega
                    have hpm2 : ¬ (p : Int) < (m : Int) := by omega
                    have hb : b = true := IS.out.2 (by
                      obtain ⟨d, hd, e⟩ := List.mem_map.1 XIN.out
                      obtain ⟨p', h1, h2⟩ := List.getElem_of_mem hd
                      exact ⟨p', by rw [hpm', ← WL.out]; exact h1, by unfold dx; rw [List.getD_eq_getElem?_getD, List.getElem?_eq_getElem h1]; show (W[p']).x = x; rw [h2]; exact e⟩)
                    subst hb
                    have DL := veil (del_len TK.out.kn LX.out.1)
                    obtain ⟨r, hr⟩ : ∃ r, (del L4 x.k).length = r := ⟨_, rfl⟩
                    have hr1 : (m : Int) - 1 - (q : Int) = (r : Int) := by have := DL.out; have := TK.out.len; omega
                    have hr2 : r ≤ 256 := by have := DL.out; have := TK.out.len; omega
                    have HRL := veil hr
                    have RU := veil (SW.out.row (g := gw) (t := 35) (cs := (dv u).toArray) (by simp))
                    have RX := veil (SW.out.row (g := g21) (t := 35) (cs := (dv ⟨0, x⟩).toArray) (by simp))
                    clear IS hpm hpm' hp XIN hr DL
                    by_cases hq0 : q = 0
                    · have hq1 : (q : Int) ≤ 0 := by omega
                      clear hq0
                      go_wp2_with fail
                      refine (sw_len SW.out r HRL.out).mono ?_
                      rintro e w7 ⟨rfl, rfl⟩
                      have u0 : wr.cell? ⟨gw, 0, none⟩ = some (.int .u8 u.kd) := RU.out.cell 0
                      have u1 : wr.cell? ⟨gw, 1, none⟩ = some (.int .u8 u.x.k.kd) := RU.out.cell 1
                      have u2 : wr.cell? ⟨gw, 2, none⟩ = some (.int .u64 u.x.k.id) := RU.out.cell 2
                      have u3 : wr.cell? ⟨gw, 3, none⟩ = some (.int .u64 u.x.t) := RU.out.cell 3
                      have x0 : wr.cell? ⟨g21, 0, none⟩ = some (.int .u8 0) := RX.out.cell 0
                      have x1 : wr.cell? ⟨g21, 1, none⟩ = some (.int .u8 x.k.kd) := RX.out.cell 1
                      have x2 : wr.cell? ⟨g21, 2, none⟩ = some (.int .u64 x.k.id) := RX.out.cell 2
                      have x3 : wr.cell? ⟨g21, 3, none⟩ = some (.int .u64 x.t) := RX.out.cell 3
                      have f0 : wr.frozen? ⟨gw, 0, none⟩ = false := RU.out.frozen 0
                      have f1 : wr.frozen? ⟨gw, 1, none⟩ = false := RU.out.frozen 1
                      have f2 : wr.frozen? ⟨gw, 2, none⟩ = false := RU.out.frozen 2
                      have f3 : wr.frozen? ⟨gw, 3, none⟩ = false := RU.out.frozen 3
                      have RN := veil ((((RU.out.set 0 (.int .u8 0)).set 1 (.int .u8 x.k.kd)).set 2 (.int .u64 x.k.id)).set 3 (.int .u64 x.t))
                      have KN : Hid (Kept [gw] wr ((((wr.setCell ⟨gw, 0, none⟩ (.int .u8 0)).setCell ⟨gw, 1, none⟩ (.int .u8 x.k.kd)).setCell ⟨gw, 2, none⟩ (.int .u64 x.k.id)).setCell ⟨gw, 3, none⟩ (.int .u64 x.t))) := (((kept_set (by simp)).trans' (kept_set (by simp))).trans' (kept_set (by simp))).trans' (kept_set (by simp))
                      have ZT : Hid (Tak w ((((wr.setCell ⟨gw, 0, none⟩ (.int .u8 0)).setCell ⟨gw, 1, none⟩ (.int .u8 x.k.kd)).setCell ⟨gw, 2, none⟩ (.int .u64 x.k.id)).setCell ⟨gw, 3, none⟩ (.int .u64 x.t)) s gw I m cc W now ee (q + 1)) := tak_next TK.out LX.out (SW.out.write (g := gw) (t := 35) (cs := (dv u).toArray) (by simp) GW.out KN.out RN.out)
                      clear RN KN RU RX SW
                      go_wp2_with fail
                      go_roundw
                      case rel => exact ⟨q + 1, by omega, by go_num, ZT⟩
                      case measure => simp [intOf]; omega
                    · have hq1 : (0 : Int) < (q : Int) := by omega
                      have UP := veil (TK.out.up (by omega) x LX.out.1)
                      clear hq0
                      have u0 : wr.cell? ⟨gw, 0, none⟩ = some (.int .u8 u.kd) := RU.out.cell 0
                      have u1 : wr.cell? ⟨gw, 1, none⟩ = some (.int .u8 u.x.k.kd) := RU.out.cell 1
                      have u2 : wr.cell? ⟨gw, 2, none⟩ = some (.int .u64 u.x.k.id) := RU.out.cell 2
                      have u3 : wr.cell? ⟨gw, 3, none⟩ = some (.int .u64 u.x.t) := RU.out.cell 3
                      have x0 : wr.cell? ⟨g21, 0, none⟩ = some (.int .u8 0) := RX.out.cell 0
                      have x1 : wr.cell? ⟨g21, 1, none⟩ = some (.int .u8 x.k.kd) := RX.out.cell 1
                      have x2 : wr.cell? ⟨g21, 2, none⟩ = some (.int .u64 x.k.id) := RX.out.cell 2
                      have x3 : wr.cell? ⟨g21, 3, none⟩ = some (.int .u64 x.t) := RX.out.cell 3
                      go_wp2_with fail
                      clear u0 u1 u2 u3 x0 x1 x2 x3
                      refine (ahead_eq u ⟨0, x⟩ _ UP.out).mono ?_
                      rintro e w6 ⟨rfl, h6⟩
                      have SW := veil (SW.out.keep h6)
                      have RU := veil (RU.out.keep h6)
                      have RX := veil (RX.out.keep h6)
                      clear h6
                      go_wp2_with fail
                      refine (sw_len SW.out r HRL.out).mono ?_
                      rintro e w7 ⟨rfl, rfl⟩
                      generalize w6 = wr at *
                      have u0 : wr.cell? ⟨gw, 0, none⟩ = some (.int .u8 u.kd) := RU.out.cell 0
                      have u1 : wr.cell? ⟨gw, 1, none⟩ = some (.int .u8 u.x.k.kd) := RU.out.cell 1
                      have u2 : wr.cell? ⟨gw, 2, none⟩ = some (.int .u64 u.x.k.id) := RU.out.cell 2
                      have u3 : wr.cell? ⟨gw, 3, none⟩ = some (.int .u64 u.x.t) := RU.out.cell 3
                      have x0 : wr.cell? ⟨g21, 0, none⟩ = some (.int .u8 0) := RX.out.cell 0
                      have x1 : wr.cell? ⟨g21, 1, none⟩ = some (.int .u8 x.k.kd) := RX.out.cell 1
                      have x2 : wr.cell? ⟨g21, 2, none⟩ = some (.int .u64 x.k.id) := RX.out.cell 2
                      have x3 : wr.cell? ⟨g21, 3, none⟩ = some (.int .u64 x.t) := RX.out.cell 3
                      have f0 : wr.frozen? ⟨gw, 0, none⟩ = false := RU.out.frozen 0
                      have f1 : wr.frozen? ⟨gw, 1, none⟩ = false := RU.out.frozen 1
                      have f2 : wr.frozen? ⟨gw, 2, none⟩ = false := RU.out.frozen 2
                      have f3 : wr.frozen? ⟨gw, 3, none⟩ = false := RU.out.frozen 3
                      have RN := veil ((((RU.out.set 0 (.int .u8 0)).set 1 (.int .u8 x.k.kd)).set 2 (.int .u64 x.k.id)).set 3 (.int .u64 x.t))
                      have KN : Hid (Kept [gw] wr ((((wr.setCell ⟨gw, 0, none⟩ (.int .u8 0)).setCell ⟨gw, 1, none⟩ (.int .u8 x.k.kd)).setCell ⟨gw, 2, none⟩ (.int .u64 x.k.id)).setCell ⟨gw, 3, none⟩ (.int .u64 x.t))) := (((kept_set (by simp)).trans' (kept_set (by simp))).trans' (kept_set (by simp))).trans' (kept_set (by simp))
                      have ZT : Hid (Tak w ((((wr.setCell ⟨gw, 0, none⟩ (.int .u8 0)).setCell ⟨gw, 1, none⟩ (.int .u8 x.k.kd)).setCell ⟨gw, 2, none⟩ (.int .u64 x.k.id)).setCell ⟨gw, 3, none⟩ (.int .u64 x.t)) s gw I m cc W now ee (q + 1)) := tak_next TK.out LX.out (SW.out.write (g := gw) (t := 35) (cs := (dv u).toArray) (by simp) GW.out KN.out RN.out)
                      clear RN KN RU RX SW
                      go_wp2_with fail
                      go_roundw
                      case rel => exact ⟨q + 1, by omega, by go_num, ZT⟩
                      case measure => simp [intOf]; omega
            · have hqm' : ¬ (q : Int) < (m : Int) := by omega
              have L0 : Hid (L4 = []) := List.eq_nil_of_length_eq_zero (by have := TK.out.len; omega)
              clear hqm
              go_wp2_with fail
              refine (sw_next SW.out ⟨⟨0, 0⟩, 0⟩ false (.inl ⟨rfl, L0.out, rfl⟩)).mono ?_
              rintro e w8 ⟨rfl, h8⟩
              have B8 := veil (h8.bel.trans ((below_new w8 (.cells #[.int .u8 0, .int .u64 0] 33)).mono h8.bel.size))
              clear h8 SW
              go_wp2_with fail
              generalize w8.alloc (.cells #[.int .u8 0, .int .u64 0] 33) = w9 at *
              refine (lives_true _).mono ?_
              rintro e w10 ⟨rfl, h10⟩
              have B10 := veil (B8.out.trans (h10.mono B8.out.size))
              clear h10 B8
              go_wp2_with fail
              go_ret
              exact ⟨rfl, B10.out⟩

theorem own : ownKnob Try.prog.godebug = none := by kernel_rfl
theorem readable : ∀ t ∈ Try.f5.params.toList, Try.prog.readableRec t = true ∧ t < Try.prog.types.size := by
  rw [Try.params5]
  intro t ht
  simp at ht
  rcases ht with rfl | rfl
  · exact ⟨by kernel_rfl, of_decide_eq_true (by kernel_rfl)⟩
  · exact ⟨by kernel_rfl, of_decide_eq_true (by kernel_rfl)⟩

set_option maxRecDepth 100000 in
theorem lifted (os : Os) (started : os.Started) (H : Type) (enc : TypeId × Value → H) :
    ReturnsInHanded {} Try.checked os 5 .any (Rows.timersOrderSpec.pre6 enc Try.prog Try.f5 Rows.timersOrderRow.domain false) (Rows.timersOrderSpec.post enc Try.prog Try.f5 false true false false) := by
  refine returnsInHanded_of_change_sized (C := Try.checked) own started (by kernel_rfl) Try.func5
    (ChangeSpec.witness6 (enc := enc) (C := Try.checked) false ⟨#[], #[.slice none 0 0, .int .u64 0], []⟩ 8 (by kernel_rfl) (by kernel_rfl) (by kernel_rfl) (by kernel_rfl)) ?_
  intro W base args ds gs before hval0 hW _ hsz0 _
  have hval : ∀ (j : Nat) t v, Try.f5.params[j]? = some t → args[j]? = some v → Value.okWide Try.prog W .any base t v := hval0
  have hW' := hW
  obtain ⟨p, q, hA0, hV, rfl, _, _⟩ := hW
  have hA : DataW.TrodAll enc Try.prog W 0 (fun _ => true) true Try.f5.params.toList args.toList ds p := hA0
  rw [Try.params5] at hA hval
  obtain ⟨v0, vs0, d0, ds0, p0, q0, hargs, rfl, rfl, h0, r0⟩ := trodAll_cons hA
  obtain ⟨v1, vs1, d1, ds1, p1, q1, rfl, rfl, rfl, h1, r1⟩ := trodAll_cons r0
  obtain ⟨rfl, rfl, rfl⟩ := trodAll_nil r1
  obtain rfl : args = #[v0, v1] := by cases args; simp_all
  obtain ⟨rfl, rfl⟩ := trodVars_none hV
  obtain ⟨now, rfl, rfl, rfl, w1⟩ := open_int Try.underlying31 (hval 1 31 v1 rfl rfl) h1
  have ho := opens_arg h0 (slim_of hsz0 (j := 0) rfl rfl)
  obtain ⟨A0, n0, c0, rfl⟩ := okWide_slice Try.underlying22 (hval 0 22 v0 rfl rfl)
  obtain ⟨A, c, l, e, _, hn, hd⟩ := open_acts ho
  simp [Value.cells] at e
  obtain ⟨rfl, rfl, rfl⟩ := e
  have hw : Calls Try.prog 5 #[.slice A0 l.length c0, .int .u64 now] W fun e w' => e = .returned (.bool true) ∧ Below W.heap.size W w' := by
    exact walk A0 l.length c0 l now W rfl hn hd (u64_wf w1)
  refine hw.mono fun e W' ⟨he, hb⟩ => ?_
  subst he
  exact ⟨_, rfl, law_post (by kernel_rfl) rfl rfl Try.underlying4 readable hW' rfl hb⟩

/-- TimersOrder, as given -/
theorem holds : Rows.TimersOrderSaid :=
  OpenClaim.holds_of_wide 5 Try.f5 rfl rfl rfl rfl rfl rfl rfl ⟨rfl, rfl, rfl, rfl, rfl⟩ rfl rfl rfl rfl rfl (by kernel_rfl) Try.func5 (by kernel_rfl)
    (of_decide_eq_true (by kernel_rfl)) (by unfold Func.isWrapper; first | (rw [if_pos (by decide +kernel)]; kernel_rfl) | (rw [if_neg (by decide +kernel)]; exact ⟨rfl, rfl⟩))
    (fun os started H enc _ => lifted os started H enc)

#print axioms holds
end Go.Proofs.Ytkjgmimfnmilfaa.timersOrder
