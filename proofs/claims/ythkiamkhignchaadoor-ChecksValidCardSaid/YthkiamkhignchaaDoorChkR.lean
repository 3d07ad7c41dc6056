/-
  Which messages count, by the document: whatever packet and message it is handed.
  Conditions: the known addresses lie in their table; the message's options are read.
-/
import Derived.Test.YthkiamkhignchaaDoorChkAll
import Derived.Test.YthkiamkhignchaaDoorAdrAll
namespace Go.Proofs.YthkiamkhignchaaDoor.Ck
set_option maxRecDepth 100000
open Go.RowKit Ops Hd Oz Mg
open Ad (Knw kn kn_len kn_ok Ok mult ll sol sol_ok eql_any neq_any refIsMulticast_any refIsLinkLocal_any refSolicited_any)

theorem z16_kn : z16 = kn 0 := by rw [Ad.kn0]; rfl
theorem z16_16 : z16.length = 16 := rfl
theorem z16_made : (bv z16).toArray = (#[Value.int .u8 0, Value.int .u8 0, Value.int .u8 0, Value.int .u8 0, Value.int .u8 0, Value.int .u8 0, Value.int .u8 0, Value.int .u8 0, Value.int .u8 0, Value.int .u8 0, Value.int .u8 0, Value.int .u8 0, Value.int .u8 0, Value.int .u8 0, Value.int .u8 0, Value.int .u8 0] : Array Value) := rfl

theorem refSource_any (m : Ms) (os : List (Int × List Int)) (w : World) (F : Fine3 m) (hO : Op1 w m.opts os) :
    Calls Tryd.prog 27 #[mv m] w fun e w' => e = .returned (.bool (one os)) ∧ Below w.heap.size w w' := by
  obtain ⟨A, c, ho, hr⟩ := hO.ex
  have hn := hO.n
  have M := veil ((Lay.begin w).new (mc m) 35 rfl)
  have c0 := (msgAt M.out mem0 F).opts
  rw [ho] at c0
  have HA := veil (hr.keep M.out.below)
  obtain ⟨n, hl⟩ : ∃ n, os.length = n := ⟨_, rfl⟩
  rw [hl] at c0 hn
  have HL := veil hl
  have in1 : (n : Int) ≤ 140737488355328 := by omega
  clear hO hr ho hn hl F
  go_enter Tryd.func27, Tryd.ntmps27
  go_wp2_with fail
  generalize w.alloc (.cells (mc m).toArray 35) = w1 at *
  go_loopw [3] (fun s3 wr => ∃ i : Nat, i ≤ n ∧ s3 = .int .i64 i ∧ Hid (w1 = wr) ∧ Hid (one (os.take i) = false)) (fun s3 _ => n - (intOf s3).toNat)
  case atStart => exact ⟨0, Nat.zero_le _, rfl, veil rfl, veil (by simp [one])⟩
  case round =>
    rename World => wr
    obtain ⟨i, hi, rfl, hw, HN⟩ := hrel
    obtain rfl : w1 = wr := hw.out
    clear hw
    by_cases hlt : i < n
    · have ij : (i : Int) < (n : Int) := by omega
      obtain ⟨o, ho⟩ : ∃ o, os[i]? = some o := ⟨_, List.getElem?_eq_getElem (by rw [HL.out]; exact hlt)⟩
      obtain ⟨a, x, rfl, X, k1, s1⟩ := HA.out i o ho
      have c1 := X.kind
      have HOJ := veil ho
      have HK1 := veil k1
      clear X s1 ho k1
      generalize x.k = xk at *
      by_cases hk : xk = 1
      · have H1 := veil (one_hit HOJ.out (HK1.out.symm.trans hk))
        subst hk
        go_wp2_with fail
        go_ret
        exact ⟨by rw [H1.out]; rfl, M.out.below⟩
      · have dk : (xk == 1) = false := by simp [hk]
        have H1 : Hid (one (os.take (i + 1)) = false) := veil (by rw [one_next HOJ.out, HN.out, ← HK1.out, dk]; rfl)
        clear dk
        go_wp2_with fail
        go_roundw
        case rel => exact ⟨i + 1, by omega, by go_num, veil (by first | trivial | rfl), H1⟩
        case measure => simp [intOf]; omega
    · have ij : ¬ (i : Int) < (n : Int) := by omega
      have hfull : os.take i = os := List.take_of_length_le (by rw [HL.out]; omega)
      rw [hfull] at HN
      clear hfull
      go_wp2_with fail
      go_ret
      exact ⟨by rw [HN.out]; rfl, M.out.below⟩

section
variable (k : Pk) (v : Value) (m : Ms) (os : List (Int × List Int)) (w : World)

set_option linter.unusedSimpArgs false in
set_option maxHeartbeats 4000000 in
theorem refValid_130 (hk : Knw w) (G : Gd k m) (hO : Op1 w m.opts os) (h : m.kind = 130) : Calls Tryd.prog 12 #[pv k v, mv m] w fun e w' => e = .returned (.bool (valid k m os)) ∧ Below w.heap.size w w' := by
  have M := veil ((two_new hk k v m).new (bv z16) 23 (g := w.heap.size + 1 + 1) (by simp))
  rw [z16_made] at M
  have VG := veil G
  have HO := veil (hO.keep M.out.below)
  have HV := veil (valid_of (os := os) (k := k) (asked_130 h))
  have HK := veil h
  have c0 := (msgAt M.out.lay mem1 VG.out.f).kind
  rw [h] at c0
  have c1 := (msgAt M.out.lay mem1 VG.out.f).code
  have c2 := (pktAt M.out.lay mem2 VG.out.ends).hops
  clear h hk G hO
  by_cases hh : k.hops = 1
  · rw [hh] at c2
    by_cases hc : m.code = 0
    · rw [hc] at c1
      have HH := veil hh
      have HC := veil hc
      clear hh hc
      go_enter Tryd.func12, Tryd.ntmps12
      go_wp2_with (refine wpList_load_of rfl _ rfl rfl (pktAt M.out.lay mem2 VG.out.ends).src ?_)
      clear c0 c1 c2
      generalize ((w.alloc (.cells (pc k v).toArray 30)).alloc (.cells (mc m).toArray 35)).alloc (.cells #[Value.int .u8 0, Value.int .u8 0, Value.int .u8 0, Value.int .u8 0, Value.int .u8 0, Value.int .u8 0, Value.int .u8 0, Value.int .u8 0, Value.int .u8 0, Value.int .u8 0, Value.int .u8 0, Value.int .u8 0, Value.int .u8 0, Value.int .u8 0, Value.int .u8 0, Value.int .u8 0] 23) = w1 at *
      refine (refIsLinkLocal_any k.s _ VG.out.s M.out.knw).mono ?_
      rintro e w2 ⟨rfl, q⟩
      have M := veil (M.out.keep q)
      have HO := veil (HO.out.keep q)
      clear q
      have c0 := (msgAt M.out.lay mem1 VG.out.f).kind
      rw [HK.out] at c0
      have c3 := (pktAt M.out.lay mem2 VG.out.ends).alert
      cases hl : ll k.s with
      | false =>
        have HL := veil hl
        clear hl
        go_wp2_with fail
        go_ret
        exact ⟨by rw [HV.out, HH.out, HC.out, HL.out]; rfl, M.out.below⟩
      | true =>
        have HL := veil hl
        clear hl
        go_wp2_with fail
        go_ret
        exact ⟨by rw [HV.out, HH.out, HC.out, HL.out]; simp, M.out.below⟩
    · go_enter Tryd.func12, Tryd.ntmps12
      go_wp2_with fail
      go_ret
      exact ⟨by rw [HV.out]; simp [hc], M.out.below⟩
  · go_enter Tryd.func12, Tryd.ntmps12
    go_wp2_with fail
    go_ret
    exact ⟨by rw [HV.out]; simp [hh], M.out.below⟩

set_option linter.unusedSimpArgs false in
set_option maxHeartbeats 4000000 in
theorem refValid_143 (hk : Knw w) (G : Gd k m) (hO : Op1 w m.opts os) (h : m.kind = 143) : Calls Tryd.prog 12 #[pv k v, mv m] w fun e w' => e = .returned (.bool (valid k m os)) ∧ Below w.heap.size w w' := by
  have M := veil ((two_new hk k v m).new (bv z16) 23 (g := w.heap.size + 1 + 1) (by simp))
  rw [z16_made] at M
  have VG := veil G
  have HO := veil (hO.keep M.out.below)
  have HV := veil (valid_of (os := os) (k := k) (asked_143 h))
  have HK := veil h
  have c0 := (msgAt M.out.lay mem1 VG.out.f).kind
  rw [h] at c0
  have c1 := (msgAt M.out.lay mem1 VG.out.f).code
  have c2 := (pktAt M.out.lay mem2 VG.out.ends).hops
  clear h hk G hO
  by_cases hh : k.hops = 1
  · rw [hh] at c2
    by_cases hc : m.code = 0
    · rw [hc] at c1
      have HH := veil hh
      have HC := veil hc
      clear hh hc
      go_enter Tryd.func12, Tryd.ntmps12
      go_wp2_with (refine wpList_load_of rfl _ rfl rfl (pktAt M.out.lay mem2 VG.out.ends).src ?_)
      clear c0 c1 c2
      generalize ((w.alloc (.cells (pc k v).toArray 30)).alloc (.cells (mc m).toArray 35)).alloc (.cells #[Value.int .u8 0, Value.int .u8 0, Value.int .u8 0, Value.int .u8 0, Value.int .u8 0, Value.int .u8 0, Value.int .u8 0, Value.int .u8 0, Value.int .u8 0, Value.int .u8 0, Value.int .u8 0, Value.int .u8 0, Value.int .u8 0, Value.int .u8 0, Value.int .u8 0, Value.int .u8 0] 23) = w1 at *
      refine (refIsLinkLocal_any k.s _ VG.out.s M.out.knw).mono ?_
      rintro e w2 ⟨rfl, q⟩
      have M := veil (M.out.keep q)
      have HO := veil (HO.out.keep q)
      clear q
      have c0 := (msgAt M.out.lay mem1 VG.out.f).kind
      rw [HK.out] at c0
      have c3 := (pktAt M.out.lay mem2 VG.out.ends).alert
      cases hl : ll k.s with
      | false =>
        have HL := veil hl
        clear hl
        have E0 : ∀ u, (binOp .eql 23 (av k.s) (av z16)).run Tryd.prog u = .ok (.bool (nob k.s)) u := fun u => eql_any u VG.out.s.len z16_16 (by unfold nob; rw [z16_kn])
        cases hb : nob k.s with
        | false =>
          have HB := veil hb
          clear hb
          rw [show nob k.s = false from HB.out] at E0
          go_wp2_with (first
            | (refine wpList_load_of rfl (.tmp 116) rfl rfl (pktAt M.out.lay mem2 VG.out.ends).src ?_)
            | (refine wpList_load_of rfl (.tmp 5) rfl rfl (M.out.lay.load (P := Tryd.prog) mem0 (part_all _) Tryd.underlying23 rfl (sizeAddr z16_16)) ?_))
          go_ret
          exact ⟨by rw [HV.out, HH.out, HC.out, HL.out, HB.out]; simp, M.out.below⟩
        | true =>
          have HB := veil hb
          clear hb
          rw [show nob k.s = true from HB.out] at E0
          go_wp2_with (first
            | (refine wpList_load_of rfl (.tmp 116) rfl rfl (pktAt M.out.lay mem2 VG.out.ends).src ?_)
            | (refine wpList_load_of rfl (.tmp 5) rfl rfl (M.out.lay.load (P := Tryd.prog) mem0 (part_all _) Tryd.underlying23 rfl (sizeAddr z16_16)) ?_))
          go_ret
          exact ⟨by rw [HV.out, HH.out, HC.out, HL.out, HB.out]; simp, M.out.below⟩
      | true =>
        have HL := veil hl
        clear hl
        go_wp2_with fail
        go_ret
        exact ⟨by rw [HV.out, HH.out, HC.out, HL.out]; simp, M.out.below⟩
    · go_enter Tryd.func12, Tryd.ntmps12
      go_wp2_with fail
      go_ret
      exact ⟨by rw [HV.out]; simp [hc], M.out.below⟩
  · go_enter Tryd.func12, Tryd.ntmps12
    go_wp2_with fail
    go_ret
    exact ⟨by rw [HV.out]; simp [hh], M.out.below⟩

set_option linter.unusedSimpArgs false in
set_option maxHeartbeats 4000000 in
theorem refValid_134 (hk : Knw w) (G : Gd k m) (hO : Op1 w m.opts os) (h : m.kind = 134) : Calls Tryd.prog 12 #[pv k v, mv m] w fun e w' => e = .returned (.bool (valid k m os)) ∧ Below w.heap.size w w' := by
  have M := veil ((two_new hk k v m).new (bv z16) 23 (g := w.heap.size + 1 + 1) (by simp))
  rw [z16_made] at M
  have VG := veil G
  have HO := veil (hO.keep M.out.below)
  have HV := veil (valid_of (os := os) (k := k) (asked_134 h))
  have HK := veil h
  have c0 := (msgAt M.out.lay mem1 VG.out.f).kind
  rw [h] at c0
  have c1 := (msgAt M.out.lay mem1 VG.out.f).code
  have c2 := (pktAt M.out.lay mem2 VG.out.ends).hops
  clear h hk G hO
  by_cases hh : k.hops = 255
  · rw [hh] at c2
    by_cases hc : m.code = 0
    · rw [hc] at c1
      have HH := veil hh
      have HC := veil hc
      clear hh hc
      go_enter Tryd.func12, Tryd.ntmps12
      go_wp2_with (refine wpList_load_of rfl _ rfl rfl (pktAt M.out.lay mem2 VG.out.ends).src ?_)
      clear c0 c1 c2
      generalize ((w.alloc (.cells (pc k v).toArray 30)).alloc (.cells (mc m).toArray 35)).alloc (.cells #[Value.int .u8 0, Value.int .u8 0, Value.int .u8 0, Value.int .u8 0, Value.int .u8 0, Value.int .u8 0, Value.int .u8 0, Value.int .u8 0, Value.int .u8 0, Value.int .u8 0, Value.int .u8 0, Value.int .u8 0, Value.int .u8 0, Value.int .u8 0, Value.int .u8 0, Value.int .u8 0] 23) = w1 at *
      refine (refIsLinkLocal_any k.s _ VG.out.s M.out.knw).mono ?_
      rintro e w2 ⟨rfl, q⟩
      have M := veil (M.out.keep q)
      have HO := veil (HO.out.keep q)
      clear q
      have c0 := (msgAt M.out.lay mem1 VG.out.f).kind
      rw [HK.out] at c0
      go_wp2_with fail
      go_ret
      exact ⟨by rw [HV.out, HH.out, HC.out]; simp, M.out.below⟩
    · go_enter Tryd.func12, Tryd.ntmps12
      go_wp2_with fail
      go_ret
      exact ⟨by rw [HV.out]; simp [hc], M.out.below⟩
  · go_enter Tryd.func12, Tryd.ntmps12
    go_wp2_with fail
    go_ret
    exact ⟨by rw [HV.out]; simp [hh], M.out.below⟩

set_option linter.unusedSimpArgs false in
set_option maxHeartbeats 4000000 in
theorem refValid_133 (hk : Knw w) (G : Gd k m) (hO : Op1 w m.opts os) (h : m.kind = 133) : Calls Tryd.prog 12 #[pv k v, mv m] w fun e w' => e = .returned (.bool (valid k m os)) ∧ Below w.heap.size w w' := by
  have M := veil ((two_new hk k v m).new (bv z16) 23 (g := w.heap.size + 1 + 1) (by simp))
  rw [z16_made] at M
  have VG := veil G
  have HO := veil (hO.keep M.out.below)
  have HV := veil (valid_of (os := os) (k := k) (asked_133 h))
  have HK := veil h
  have c0 := (msgAt M.out.lay mem1 VG.out.f).kind
  rw [h] at c0
  have c1 := (msgAt M.out.lay mem1 VG.out.f).code
  have c2 := (pktAt M.out.lay mem2 VG.out.ends).hops
  clear h hk G hO
  by_cases hh : k.hops = 255
  · rw [hh] at c2
    by_cases hc : m.code = 0
    · rw [hc] at c1
      have HH := veil hh
      have HC := veil hc
      clear hh hc
      go_enter Tryd.func12, Tryd.ntmps12
      go_wp2_with (refine wpList_load_of rfl _ rfl rfl (pktAt M.out.lay mem2 VG.out.ends).src ?_)
      clear c0 c1 c2
      generalize ((w.alloc (.cells (pc k v).toArray 30)).alloc (.cells (mc m).toArray 35)).alloc (.cells #[Value.int .u8 0, Value.int .u8 0, Value.int .u8 0, Value.int .u8 0, Value.int .u8 0, Value.int .u8 0, Value.int .u8 0, Value.int .u8 0, Value.int .u8 0, Value.int .u8 0, Value.int .u8 0, Value.int .u8 0, Value.int .u8 0, Value.int .u8 0, Value.int .u8 0, Value.int .u8 0] 23) = w1 at *
      refine (refIsLinkLocal_any k.s _ VG.out.s M.out.knw).mono ?_
      rintro e w2 ⟨rfl, q⟩
      have M := veil (M.out.keep q)
      have HO := veil (HO.out.keep q)
      clear q
      have c0 := (msgAt M.out.lay mem1 VG.out.f).kind
      rw [HK.out] at c0
      cases hb : nob k.s with
      | false =>
        have HB := veil hb
        clear hb
        have E0 : ∀ u, (binOp .neq 23 (av k.s) (av z16)).run Tryd.prog u = .ok (.bool (!nob k.s)) u := fun u => neq_any u VG.out.s.len z16_16 (by unfold nob; rw [z16_kn])
        rw [HB.out] at E0
        simp only [Bool.not_false] at E0
        go_wp2_with (first
          | (refine wpList_load_of rfl (.tmp 40) rfl rfl (pktAt M.out.lay mem2 VG.out.ends).src ?_)
          | (refine wpList_load_of rfl (.tmp 5) rfl rfl (M.out.lay.load (P := Tryd.prog) mem0 (part_all _) Tryd.underlying23 rfl (sizeAddr z16_16)) ?_)
          | (refine wpList_load_of rfl (.tmp 3) rfl rfl (msgAt M.out.lay mem1 VG.out.f).all ?_))
        go_ret
        exact ⟨by rw [HV.out, HH.out, HC.out]; unfold hides; rw [HB.out]; rfl, M.out.below⟩
      | true =>
        have HB := veil hb
        clear hb
        have E0 : ∀ u, (binOp .neq 23 (av k.s) (av z16)).run Tryd.prog u = .ok (.bool (!nob k.s)) u := fun u => neq_any u VG.out.s.len z16_16 (by unfold nob; rw [z16_kn])
        rw [HB.out] at E0
        simp only [Bool.not_true] at E0
        go_wp2_with (first
          | (refine wpList_load_of rfl (.tmp 40) rfl rfl (pktAt M.out.lay mem2 VG.out.ends).src ?_)
          | (refine wpList_load_of rfl (.tmp 5) rfl rfl (M.out.lay.load (P := Tryd.prog) mem0 (part_all _) Tryd.underlying23 rfl (sizeAddr z16_16)) ?_)
          | (refine wpList_load_of rfl (.tmp 3) rfl rfl (msgAt M.out.lay mem1 VG.out.f).all ?_))
        refine (refSource_any m os _ VG.out.f HO.out).mono ?_
        rintro e w3 ⟨rfl, q⟩
        have M := veil (M.out.keep q)
        have HO := veil (HO.out.keep q)
        clear q
        go_wp2_with fail
        go_ret
        exact ⟨by rw [HV.out, HH.out, HC.out]; unfold hides; rw [HB.out]; simp, M.out.below⟩
    · go_enter Tryd.func12, Tryd.ntmps12
      go_wp2_with fail
      go_ret
      exact ⟨by rw [HV.out]; simp [hc], M.out.below⟩
  · go_enter Tryd.func12, Tryd.ntmps12
    go_wp2_with fail
    go_ret
    exact ⟨by rw [HV.out]; simp [hh], M.out.below⟩

set_option linter.unusedSimpArgs false in
set_option maxHeartbeats 4000000 in
theorem refValid_136 (hk : Knw w) (G : Gd k m) (hO : Op1 w m.opts os) (h : m.kind = 136) : Calls Tryd.prog 12 #[pv k v, mv m] w fun e w' => e = .returned (.bool (valid k m os)) ∧ Below w.heap.size w w' := by
  have M := veil ((two_new hk k v m).new (bv z16) 23 (g := w.heap.size + 1 + 1) (by simp))
  rw [z16_made] at M
  have VG := veil G
  have HO := veil (hO.keep M.out.below)
  have HV := veil (valid_of (os := os) (k := k) (asked_136 h))
  have HK := veil h
  have c0 := (msgAt M.out.lay mem1 VG.out.f).kind
  rw [h] at c0
  have c1 := (msgAt M.out.lay mem1 VG.out.f).code
  have c2 := (pktAt M.out.lay mem2 VG.out.ends).hops
  clear h hk G hO
  by_cases hh : k.hops = 255
  · rw [hh] at c2
    by_cases hc : m.code = 0
    · rw [hc] at c1
      have HH := veil hh
      have HC := veil hc
      clear hh hc
      go_enter Tryd.func12, Tryd.ntmps12
      go_wp2_with (refine wpList_load_of rfl _ rfl rfl (pktAt M.out.lay mem2 VG.out.ends).src ?_)
      clear c0 c1 c2
      generalize ((w.alloc (.cells (pc k v).toArray 30)).alloc (.cells (mc m).toArray 35)).alloc (.cells #[Value.int .u8 0, Value.int .u8 0, Value.int .u8 0, Value.int .u8 0, Value.int .u8 0, Value.int .u8 0, Value.int .u8 0, Value.int .u8 0, Value.int .u8 0, Value.int .u8 0, Value.int .u8 0, Value.int .u8 0, Value.int .u8 0, Value.int .u8 0, Value.int .u8 0, Value.int .u8 0] 23) = w1 at *
      refine (refIsLinkLocal_any k.s _ VG.out.s M.out.knw).mono ?_
      rintro e w2 ⟨rfl, q⟩
      have M := veil (M.out.keep q)
      have HO := veil (HO.out.keep q)
      clear q
      have c0 := (msgAt M.out.lay mem1 VG.out.f).kind
      rw [HK.out] at c0
      go_wp2_with (refine wpList_load_of rfl _ rfl rfl (msgAt M.out.lay mem1 VG.out.f).t ?_)
      clear c0
      refine (refIsMulticast_any m.t _ VG.out.t).mono ?_
      rintro e w3 ⟨rfl, q⟩
      have M := veil (M.out.keep q)
      have HO := veil (HO.out.keep q)
      clear q
      cases hm : mult m.t with
      | false =>
        have HM := veil hm
        clear hm
        go_wp2_with (refine wpList_load_of rfl _ rfl rfl (pktAt M.out.lay mem2 VG.out.ends).dst ?_)
        refine (refIsMulticast_any k.d _ VG.out.d).mono ?_
        rintro e w4 ⟨rfl, q⟩
        have M := veil (M.out.keep q)
        have HO := veil (HO.out.keep q)
        clear q
        have c5 := (msgAt M.out.lay mem1 VG.out.f).flags
        obtain ⟨b0, b1⟩ := VG.out.fl
        have HF := veil (show m.flags / 64 % 2 = m.flags / 64 % 2 from rfl)
        obtain ⟨fl, hfl⟩ : ∃ x, m.flags = x := ⟨_, rfl⟩
        rw [hfl] at c5 b0 b1
        have HFL := veil hfl
        have e1 : fl.tdiv 64 = fl / 64 := Int.tdiv_eq_ediv_of_nonneg b0
        obtain ⟨q, hq⟩ : ∃ x, fl / 64 = x := ⟨_, rfl⟩
        rw [hq] at e1
        have q0 : 0 ≤ q ∧ q ≤ 3 := by omega
        have e2 : IntKind.u8.wrap q = q := by rw [IntKind.wrap_u8]; omega
        have e3 : q.tmod 2 = q % 2 := Int.tmod_eq_emod_of_nonneg q0.1
        obtain ⟨r, hr⟩ : ∃ x, q % 2 = x := ⟨_, rfl⟩
        rw [hr] at e3
        have r0 : 0 ≤ r ∧ r ≤ 1 := by omega
        have e4 : IntKind.u8.wrap r = r := by rw [IntKind.wrap_u8]; omega
        have HQ := veil hq
        have HR := veil hr
        clear hq hr hfl HF
        cases hd : mult k.d with
        | false =>
          have HD := veil hd
          clear hd
          clear e1 e2 e3 e4
          go_wp2_with fail
          go_ret
          exact ⟨by rw [HV.out, HH.out, HC.out]; unfold tells; rw [HM.out, HD.out]; rfl, M.out.below⟩
        | true =>
          have HD := veil hd
          clear hd
          rcases (by omega : r = 0 ∨ r = 1) with rfl | rfl
          · skip
            go_wp2_with fail
            go_ret
            exact ⟨by rw [HV.out, HH.out, HC.out]; unfold tells; rw [HM.out, HD.out, HFL.out, HQ.out, HR.out]; rfl, M.out.below⟩
          · skip
            go_wp2_with fail
            go_ret
            exact ⟨by rw [HV.out, HH.out, HC.out]; unfold tells; rw [HM.out, HD.out, HFL.out, HQ.out, HR.out]; rfl, M.out.below⟩
      | true =>
        have HM := veil hm
        clear hm
        go_wp2_with fail
        go_ret
        exact ⟨by rw [HV.out, HH.out, HC.out]; unfold tells; rw [HM.out]; rfl, M.out.below⟩
    · go_enter Tryd.func12, Tryd.ntmps12
      go_wp2_with fail
      go_ret
      exact ⟨by rw [HV.out]; simp [hc], M.out.below⟩
  · go_enter Tryd.func12, Tryd.ntmps12
    go_wp2_with fail
    go_ret
    exact ⟨by rw [HV.out]; simp [hh], M.out.below⟩

set_option linter.unusedSimpArgs false in
set_option maxHeartbeats 4000000 in
theorem refValid_137 (hk : Knw w) (G : Gd k m) (hO : Op1 w m.opts os) (h : m.kind = 137) : Calls Tryd.prog 12 #[pv k v, mv m] w fun e w' => e = .returned (.bool (valid k m os)) ∧ Below w.heap.size w w' := by
  have M := veil ((two_new hk k v m).new (bv z16) 23 (g := w.heap.size + 1 + 1) (by simp))
  rw [z16_made] at M
  have VG := veil G
  have HO := veil (hO.keep M.out.below)
  have HV := veil (valid_of (os := os) (k := k) (asked_137 h))
  have HK := veil h
  have c0 := (msgAt M.out.lay mem1 VG.out.f).kind
  rw [h] at c0
  have c1 := (msgAt M.out.lay mem1 VG.out.f).code
  have c2 := (pktAt M.out.lay mem2 VG.out.ends).hops
  clear h hk G hO
  by_cases hh : k.hops = 255
  · rw [hh] at c2
    by_cases hc : m.code = 0
    · rw [hc] at c1
      have HH := veil hh
      have HC := veil hc
      clear hh hc
      go_enter Tryd.func12, Tryd.ntmps12
      go_wp2_with (refine wpList_load_of rfl _ rfl rfl (pktAt M.out.lay mem2 VG.out.ends).src ?_)
      clear c0 c1 c2
      generalize ((w.alloc (.cells (pc k v).toArray 30)).alloc (.cells (mc m).toArray 35)).alloc (.cells #[Value.int .u8 0, Value.int .u8 0, Value.int .u8 0, Value.int .u8 0, Value.int .u8 0, Value.int .u8 0, Value.int .u8 0, Value.int .u8 0, Value.int .u8 0, Value.int .u8 0, Value.int .u8 0, Value.int .u8 0, Value.int .u8 0, Value.int .u8 0, Value.int .u8 0, Value.int .u8 0] 23) = w1 at *
      refine (refIsLinkLocal_any k.s _ VG.out.s M.out.knw).mono ?_
      rintro e w2 ⟨rfl, q⟩
      have M := veil (M.out.keep q)
      have HO := veil (HO.out.keep q)
      clear q
      have c0 := (msgAt M.out.lay mem1 VG.out.f).kind
      rw [HK.out] at c0
      cases hl : ll k.s with
      | false =>
        have HL := veil hl
        clear hl
        go_wp2_with fail
        go_ret
        exact ⟨by rw [HV.out, HH.out, HC.out, HL.out]; rfl, M.out.below⟩
      | true =>
        have HL := veil hl
        clear hl
        go_wp2_with (refine wpList_load_of rfl _ rfl rfl (msgAt M.out.lay mem1 VG.out.f).d ?_)
        clear c0
        refine (refIsMulticast_any m.d _ VG.out.e).mono ?_
        rintro e w3 ⟨rfl, q⟩
        have M := veil (M.out.keep q)
        have HO := veil (HO.out.keep q)
        clear q
        cases hm : mult m.d with
        | false =>
          have HM := veil hm
          clear hm
          go_wp2_with (refine wpList_load_of rfl _ rfl rfl (msgAt M.out.lay mem1 VG.out.f).t ?_)
          refine (refIsLinkLocal_any m.t _ VG.out.t M.out.knw).mono ?_
          rintro e w4 ⟨rfl, q⟩
          have M := veil (M.out.keep q)
          have HO := veil (HO.out.keep q)
          clear q
          cases ht : ll m.t with
          | false =>
            have HT := veil ht
            clear ht
            have E0 : ∀ u, (binOp .eql 23 (av m.t) (av m.d)).run Tryd.prog u = .ok (.bool (decide (m.t = m.d))) u := fun u => eql_any u VG.out.t.len VG.out.e.len rfl
            generalize hz : decide (m.t = m.d) = z at *
            have HZ := veil hz
            clear hz
            go_wp2_with (first
              | (refine wpList_load_of rfl (.tmp 101) rfl rfl (msgAt M.out.lay mem1 VG.out.f).t ?_)
              | (refine wpList_load_of rfl (.tmp 103) rfl rfl (msgAt M.out.lay mem1 VG.out.f).d ?_))
            go_ret
            exact ⟨by rw [HV.out, HH.out, HC.out, HL.out]; unfold leads; rw [HM.out, HT.out, HZ.out]; rfl, M.out.below⟩
          | true =>
            have HT := veil ht
            clear ht
            go_wp2_with fail
            go_ret
            exact ⟨by rw [HV.out, HH.out, HC.out, HL.out]; unfold leads; rw [HM.out, HT.out]; rfl, M.out.below⟩
        | true =>
          have HM := veil hm
          clear hm
          go_wp2_with fail
          go_ret
          exact ⟨by rw [HV.out, HH.out, HC.out, HL.out]; unfold leads; rw [HM.out]; rfl, M.out.below⟩
    · go_enter Tryd.func12, Tryd.ntmps12
      go_wp2_with fail
      go_ret
      exact ⟨by rw [HV.out]; simp [hc], M.out.below⟩
  · go_enter Tryd.func12, Tryd.ntmps12
    go_wp2_with fail
    go_ret
    exact ⟨by rw [HV.out]; simp [hh], M.out.below⟩

set_option linter.unusedSimpArgs false in
set_option maxHeartbeats 4000000 in
theorem refValid_135 (hk : Knw w) (G : Gd k m) (hO : Op1 w m.opts os) (h : m.kind = 135) : Calls Tryd.prog 12 #[pv k v, mv m] w fun e w' => e = .returned (.bool (valid k m os)) ∧ Below w.heap.size w w' := by
  have M := veil ((two_new hk k v m).new (bv z16) 23 (g := w.heap.size + 1 + 1) (by simp))
  rw [z16_made] at M
  have VG := veil G
  have HO := veil (hO.keep M.out.below)
  have HV := veil (valid_of (os := os) (k := k) (asked_135 h))
  have HK := veil h
  have c0 := (msgAt M.out.lay mem1 VG.out.f).kind
  rw [h] at c0
  have c1 := (msgAt M.out.lay mem1 VG.out.f).code
  have c2 := (pktAt M.out.lay mem2 VG.out.ends).hops
  clear h hk G hO
  by_cases hh : k.hops = 255
  · rw [hh] at c2
    by_cases hc : m.code = 0
    · rw [hc] at c1
      have HH := veil hh
      have HC := veil hc
      clear hh hc
      go_enter Tryd.func12, Tryd.ntmps12
      go_wp2_with (refine wpList_load_of rfl _ rfl rfl (pktAt M.out.lay mem2 VG.out.ends).src ?_)
      clear c0 c1 c2
      generalize ((w.alloc (.cells (pc k v).toArray 30)).alloc (.cells (mc m).toArray 35)).alloc (.cells #[Value.int .u8 0, Value.int .u8 0, Value.int .u8 0, Value.int .u8 0, Value.int .u8 0, Value.int .u8 0, Value.int .u8 0, Value.int .u8 0, Value.int .u8 0, Value.int .u8 0, Value.int .u8 0, Value.int .u8 0, Value.int .u8 0, Value.int .u8 0, Value.int .u8 0, Value.int .u8 0] 23) = w1 at *
      refine (refIsLinkLocal_any k.s _ VG.out.s M.out.knw).mono ?_
      rintro e w2 ⟨rfl, q⟩
      have M := veil (M.out.keep q)
      have HO := veil (HO.out.keep q)
      clear q
      have c0 := (msgAt M.out.lay mem1 VG.out.f).kind
      rw [HK.out] at c0
      go_wp2_with (refine wpList_load_of rfl _ rfl rfl (msgAt M.out.lay mem1 VG.out.f).t ?_)
      clear c0
      refine (refIsMulticast_any m.t _ VG.out.t).mono ?_
      rintro e w3 ⟨rfl, q⟩
      have M := veil (M.out.keep q)
      have HO := veil (HO.out.keep q)
      clear q
      cases hm : mult m.t with
      | false =>
        have HM := veil hm
        clear hm
        have E0 : ∀ u, (binOp .eql 23 (av k.s) (av z16)).run Tryd.prog u = .ok (.bool (nob k.s)) u := fun u => eql_any u VG.out.s.len z16_16 (by unfold nob; rw [z16_kn])
        cases hb : nob k.s with
        | false =>
          have HB := veil hb
          clear hb
          rw [HB.out] at E0
          go_wp2_with (first
            | (refine wpList_load_of rfl (.tmp 57) rfl rfl (pktAt M.out.lay mem2 VG.out.ends).src ?_)
            | (refine wpList_load_of rfl (.tmp 5) rfl rfl (M.out.lay.load (P := Tryd.prog) mem0 (part_all _) Tryd.underlying23 rfl (sizeAddr z16_16)) ?_))
          go_ret
          exact ⟨by rw [HV.out, HH.out, HC.out]; unfold asks hides; rw [HM.out, HB.out]; rfl, M.out.below⟩
        | true =>
          have HB := veil hb
          clear hb
          rw [HB.out] at E0
          go_wp2_with (first
            | (refine wpList_load_of rfl (.tmp 57) rfl rfl (pktAt M.out.lay mem2 VG.out.ends).src ?_)
            | (refine wpList_load_of rfl (.tmp 5) rfl rfl (M.out.lay.load (P := Tryd.prog) mem0 (part_all _) Tryd.underlying23 rfl (sizeAddr z16_16)) ?_))
          clear E0
          have hd16 := veil (sizeAddr VG.out.d.len)
          have ht16 := veil (sizeAddr VG.out.t.len)
          have hm16 := veil (sizeMsg VG.out.f)
          have M := veil M.out.drew
          have HO := veil HO.out.drew
          have E0 : ∀ u, (binOp .eql 23 (av k.d) (av (sol m.t))).run Tryd.prog u = .ok (.bool (decide (k.d = sol m.t))) u := fun u => eql_any u VG.out.d.len (sol_ok VG.out.t).len rfl
          generalize hsol : sol m.t = st at *
          have HS := veil hsol
          clear hsol
          generalize hz : decide (k.d = st) = z at *
          have HZ := veil hz
          clear hz
          cases z with
          | false =>
            refine wp_region_noPanic ?_
            refine wp_region_held_drew (S := (fun w' => ∀ x ∈ [(w.heap.size + 1 + 1, (23, bv z16)), (w.heap.size + 1, (35, mc m)), (w.heap.size, (30, pc k v))], w'.rangeAt x.1 0 x.2.2)) (by kernel_rfl) M.out.rng (fun hHeld => ?_)
            refine wpAnyH_take (i := 0) (v := ?_) (by rfl) (by kernel_rfl) (by kernel_rfl) (by kernel_rfl) (fun _ _ _ h => h) (Or.inl ⟨by rfl, ?_⟩) hHeld ?_
            rotate_left
            · intro w' hSw
              (try dsimp only at hSw)
              simp only [List.getElem_toArray, List.getElem_cons_zero, List.getElem_cons_succ]
              go_simp
              all_goals (try with_reducible rfl)
            try simp only [Act.put, List.setIfInBounds_toArray, List.set_cons_zero, List.set_cons_succ, List.getElem_toArray, List.getElem_cons_zero, List.getElem_cons_succ]
            refine wpAnyH_take (i := 1) (v := _) (by rfl) (by kernel_rfl) (by kernel_rfl) (by kernel_rfl) (fun _ _ _ h => h) (yieldsIf_load_mid (by rfl) _ _ (by rfl) _ _ rfl (bv k.d) _ (fun _ h => part_rng (h _ mem2) (pc_dst VG.out.ends)) Tryd.underlying23 rfl hd16.out) hHeld ?_
            try simp only [Act.put, List.setIfInBounds_toArray, List.set_cons_zero, List.set_cons_succ, List.getElem_toArray, List.getElem_cons_zero, List.getElem_cons_succ]
            refine wpAnyH_take (i := 2) (v := ?_) (by rfl) (by kernel_rfl) (by kernel_rfl) (by kernel_rfl) (fun _ _ _ h => h) (Or.inl ⟨by rfl, ?_⟩) hHeld ?_
            rotate_left
            · intro w' hSw
              (try dsimp only at hSw)
              simp only [List.getElem_toArray, List.getElem_cons_zero, List.getElem_cons_succ]
              go_simp
              all_goals (try with_reducible rfl)
            try simp only [Act.put, List.setIfInBounds_toArray, List.set_cons_zero, List.set_cons_succ, List.getElem_toArray, List.getElem_cons_zero, List.getElem_cons_succ]
            refine wpAnyH_take (i := 3) (v := _) (by rfl) (by kernel_rfl) (by kernel_rfl) (by kernel_rfl) (fun _ _ _ h => h) (yieldsIf_load_mid (by rfl) _ _ (by rfl) _ _ rfl (bv m.t) _ (fun _ h => part_rng (h _ mem1) mc_t) Tryd.underlying23 rfl ht16.out) hHeld ?_
            try simp only [Act.put, List.setIfInBounds_toArray, List.set_cons_zero, List.set_cons_succ, List.getElem_toArray, List.getElem_cons_zero, List.getElem_cons_succ]
            refine wpAnyH_ready (rs := [4]) (by kernel_rfl) (by simp) ?_
            refine AllReadyH.cons (by rfl) (fun K hK => ?_) AllReadyH.nil
            simp only [List.getElem_toArray, List.getElem_cons_zero, List.getElem_cons_succ]
            go_simp
            refine (refSolicited_any m.t _ VG.out.t).mono ?_
            rintro e w5 ⟨rfl, q⟩
            have M := veil (M.out.keep q)
            have HO := veil (HO.out.keep q)
            clear q
            rw [HS.out]
            (try dsimp only)
            refine hK.out _ _ M.out.rng (fun hHeld => ?_)
            clear hK K
            try simp only [Act.put, List.setIfInBounds_toArray, List.set_cons_zero, List.set_cons_succ, List.getElem_toArray, List.getElem_cons_zero, List.getElem_cons_succ]
            refine wpAnyH_take (i := 5) (v := ?_) (by rfl) (by kernel_rfl) (by kernel_rfl) (by kernel_rfl) (fun _ _ _ h => h) (Or.inl ⟨by rfl, ?_⟩) hHeld ?_
            rotate_left
            · intro w' hSw
              (try dsimp only at hSw)
              simp only [List.getElem_toArray, List.getElem_cons_zero, List.getElem_cons_succ]
              go_simp
              all_goals (try with_reducible rfl)
            try simp only [Act.put, List.setIfInBounds_toArray, List.set_cons_zero, List.set_cons_succ, List.getElem_toArray, List.getElem_cons_zero, List.getElem_cons_succ]
            refine wpAnyH_take (i := 6) (v := ?_) (by rfl) (by kernel_rfl) (by kernel_rfl) (by kernel_rfl) (fun _ _ _ h => h) (Or.inl ⟨by rfl, ?_⟩) hHeld ?_
            rotate_left
            · intro w' hSw
              (try dsimp only at hSw)
              simp only [List.getElem_toArray, List.getElem_cons_zero, List.getElem_cons_succ]
              go_simp
              all_goals (try with_reducible rfl)
            try simp only [Act.put, List.setIfInBounds_toArray, List.set_cons_zero, List.set_cons_succ, List.getElem_toArray, List.getElem_cons_zero, List.getElem_cons_succ]
            refine wpAnyH_take (i := 7) (v := undef) (by rfl) (by kernel_rfl) (by kernel_rfl) (by kernel_rfl) (fun _ _ _ h => h) (Or.inr ⟨by rfl, rfl⟩) hHeld ?_
            try simp only [Act.put, List.setIfInBounds_toArray, List.set_cons_zero, List.set_cons_succ, List.getElem_toArray, List.getElem_cons_zero, List.getElem_cons_succ]
            refine wpAnyH_take (i := 8) (v := undef) (by rfl) (by kernel_rfl) (by kernel_rfl) (by kernel_rfl) (fun _ _ _ h => h) (Or.inr ⟨by rfl, rfl⟩) hHeld ?_
            try simp only [Act.put, List.setIfInBounds_toArray, List.set_cons_zero, List.set_cons_succ, List.getElem_toArray, List.getElem_cons_zero, List.getElem_cons_succ]
            refine wpAnyH_take (i := 9) (v := undef) (by rfl) (by kernel_rfl) (by kernel_rfl) (by kernel_rfl) (fun _ _ _ h => h) (Or.inr ⟨by rfl, rfl⟩) hHeld ?_
            try simp only [Act.put, List.setIfInBounds_toArray, List.set_cons_zero, List.set_cons_succ, List.getElem_toArray, List.getElem_cons_zero, List.getElem_cons_succ]
            refine wpAnyH_take (i := 10) (v := ?_) (by rfl) (by kernel_rfl) (by kernel_rfl) (by kernel_rfl) (fun _ _ _ h => h) (Or.inl ⟨by rfl, ?_⟩) hHeld ?_
            rotate_left
            · intro w' hSw
              (try dsimp only at hSw)
              simp only [List.getElem_toArray, List.getElem_cons_zero, List.getElem_cons_succ]
              go_simp
              all_goals (try with_reducible rfl)
            try simp only [Act.put, List.setIfInBounds_toArray, List.set_cons_zero, List.set_cons_succ, List.getElem_toArray, List.getElem_cons_zero, List.getElem_cons_succ]
            refine wpAnyH_take (i := 11) (v := ?_) (by rfl) (by kernel_rfl) (by kernel_rfl) (by kernel_rfl) (fun _ _ _ h => h) (Or.inl ⟨by rfl, ?_⟩) hHeld ?_
            rotate_left
            · intro w' hSw
              (try dsimp only at hSw)
              simp only [List.getElem_toArray, List.getElem_cons_zero, List.getElem_cons_succ]
              go_simp
              all_goals (try with_reducible rfl)
            try simp only [Act.put, List.setIfInBounds_toArray, List.set_cons_zero, List.set_cons_succ, List.getElem_toArray, List.getElem_cons_zero, List.getElem_cons_succ]
            refine wpAnyH_done (by kernel_rfl) ?_ _
            refine NoPanic.normal ?_
            clear hHeld
            go_wp2_with fail
            go_ret
            exact ⟨by rw [HV.out, HH.out, HC.out]; unfold asks hides; rw [HM.out, HB.out, HS.out, HZ.out]; simp, M.out.below⟩
          | true =>
            refine wp_region_noPanic ?_
            refine wp_region_held_drew (S := (fun w' => ∀ x ∈ [(w.heap.size + 1 + 1, (23, bv z16)), (w.heap.size + 1, (35, mc m)), (w.heap.size, (30, pc k v))], w'.rangeAt x.1 0 x.2.2)) (by kernel_rfl) M.out.rng (fun hHeld => ?_)
            refine wpAnyH_take (i := 0) (v := ?_) (by rfl) (by kernel_rfl) (by kernel_rfl) (by kernel_rfl) (fun _ _ _ h => h) (Or.inl ⟨by rfl, ?_⟩) hHeld ?_
            rotate_left
            · intro w' hSw
              (try dsimp only at hSw)
              simp only [List.getElem_toArray, List.getElem_cons_zero, List.getElem_cons_succ]
              go_simp
              all_goals (try with_reducible rfl)
            try simp only [Act.put, List.setIfInBounds_toArray, List.set_cons_zero, List.set_cons_succ, List.getElem_toArray, List.getElem_cons_zero, List.getElem_cons_succ]
            refine wpAnyH_take (i := 1) (v := _) (by rfl) (by kernel_rfl) (by kernel_rfl) (by kernel_rfl) (fun _ _ _ h => h) (yieldsIf_load_mid (by rfl) _ _ (by rfl) _ _ rfl (bv k.d) _ (fun _ h => part_rng (h _ mem2) (pc_dst VG.out.ends)) Tryd.underlying23 rfl hd16.out) hHeld ?_
            try simp only [Act.put, List.setIfInBounds_toArray, List.set_cons_zero, List.set_cons_succ, List.getElem_toArray, List.getElem_cons_zero, List.getElem_cons_succ]
            refine wpAnyH_take (i := 2) (v := ?_) (by rfl) (by kernel_rfl) (by kernel_rfl) (by kernel_rfl) (fun _ _ _ h => h) (Or.inl ⟨by rfl, ?_⟩) hHeld ?_
            rotate_left
            · intro w' hSw
              (try dsimp only at hSw)
              simp only [List.getElem_toArray, List.getElem_cons_zero, List.getElem_cons_succ]
              go_simp
              all_goals (try with_reducible rfl)
            try simp only [Act.put, List.setIfInBounds_toArray, List.set_cons_zero, List.set_cons_succ, List.getElem_toArray, List.getElem_cons_zero, List.getElem_cons_succ]
            refine wpAnyH_take (i := 3) (v := _) (by rfl) (by kernel_rfl) (by kernel_rfl) (by kernel_rfl) (fun _ _ _ h => h) (yieldsIf_load_mid (by rfl) _ _ (by rfl) _ _ rfl (bv m.t) _ (fun _ h => part_rng (h _ mem1) mc_t) Tryd.underlying23 rfl ht16.out) hHeld ?_
            try simp only [Act.put, List.setIfInBounds_toArray, List.set_cons_zero, List.set_cons_succ, List.getElem_toArray, List.getElem_cons_zero, List.getElem_cons_succ]
            refine wpAnyH_ready (rs := [4]) (by kernel_rfl) (by simp) ?_
            refine AllReadyH.cons (by rfl) (fun K hK => ?_) AllReadyH.nil
            simp only [List.getElem_toArray, List.getElem_cons_zero, List.getElem_cons_succ]
            go_simp
            refine (refSolicited_any m.t _ VG.out.t).mono ?_
            rintro e w5 ⟨rfl, q⟩
            have M := veil (M.out.keep q)
            have HO := veil (HO.out.keep q)
            clear q
            rw [HS.out]
            (try dsimp only)
            refine hK.out _ _ M.out.rng (fun hHeld => ?_)
            clear hK K
            try simp only [Act.put, List.setIfInBounds_toArray, List.set_cons_zero, List.set_cons_succ, List.getElem_toArray, List.getElem_cons_zero, List.getElem_cons_succ]
            refine wpAnyH_take (i := 5) (v := ?_) (by rfl) (by kernel_rfl) (by kernel_rfl) (by kernel_rfl) (fun _ _ _ h => h) (Or.inl ⟨by rfl, ?_⟩) hHeld ?_
            rotate_left
            · intro w' hSw
              (try dsimp only at hSw)
              simp only [List.getElem_toArray, List.getElem_cons_zero, List.getElem_cons_succ]
              go_simp
              all_goals (try with_reducible rfl)
            try simp only [Act.put, List.setIfInBounds_toArray, List.set_cons_zero, List.set_cons_succ, List.getElem_toArray, List.getElem_cons_zero, List.getElem_cons_succ]
            refine wpAnyH_take (i := 6) (v := ?_) (by rfl) (by kernel_rfl) (by kernel_rfl) (by kernel_rfl) (fun _ _ _ h => h) (Or.inl ⟨by rfl, ?_⟩) hHeld ?_
            rotate_left
            · intro w' hSw
              (try dsimp only at hSw)
              simp only [List.getElem_toArray, List.getElem_cons_zero, List.getElem_cons_succ]
              go_simp
              all_goals (try with_reducible rfl)
            try simp only [Act.put, List.setIfInBounds_toArray, List.set_cons_zero, List.set_cons_succ, List.getElem_toArray, List.getElem_cons_zero, List.getElem_cons_succ]
            refine wpAnyH_take (i := 7) (v := _) (by rfl) (by kernel_rfl) (by kernel_rfl) (by kernel_rfl) (fun _ _ _ h => h) (yieldsIf_load_mid (by rfl) _ _ (by rfl) _ _ rfl (mc m) _ (fun _ h => h _ mem1) Tryd.underlying35 rfl hm16.out) hHeld ?_
            try simp only [Act.put, List.setIfInBounds_toArray, List.set_cons_zero, List.set_cons_succ, List.getElem_toArray, List.getElem_cons_zero, List.getElem_cons_succ]
            refine wpAnyH_ready (rs := [8]) (by kernel_rfl) (by simp) ?_
            refine AllReadyH.cons (by rfl) (fun K hK => ?_) AllReadyH.nil
            simp only [List.getElem_toArray, List.getElem_cons_zero, List.getElem_cons_succ]
            go_simp
            refine (refSource_any m os _ VG.out.f HO.out).mono ?_
            rintro e w6 ⟨rfl, q⟩
            have M := veil (M.out.keep q)
            have HO := veil (HO.out.keep q)
            clear q
            (try dsimp only)
            refine hK.out _ _ M.out.rng (fun hHeld => ?_)
            clear hK K
            try simp only [Act.put, List.setIfInBounds_toArray, List.set_cons_zero, List.set_cons_succ, List.getElem_toArray, List.getElem_cons_zero, List.getElem_cons_succ]
            refine wpAnyH_take (i := 9) (v := ?_) (by rfl) (by kernel_rfl) (by kernel_rfl) (by kernel_rfl) (fun _ _ _ h => h) (Or.inl ⟨by rfl, ?_⟩) hHeld ?_
            rotate_left
            · intro w' hSw
              (try dsimp only at hSw)
              simp only [List.getElem_toArray, List.getElem_cons_zero, List.getElem_cons_succ]
              go_simp
              all_goals (try with_reducible rfl)
            try simp only [Act.put, List.setIfInBounds_toArray, List.set_cons_zero, List.set_cons_succ, List.getElem_toArray, List.getElem_cons_zero, List.getElem_cons_succ]
            refine wpAnyH_take (i := 10) (v := ?_) (by rfl) (by kernel_rfl) (by kernel_rfl) (by kernel_rfl) (fun _ _ _ h => h) (Or.inl ⟨by rfl, ?_⟩) hHeld ?_
            rotate_left
            · intro w' hSw
              (try dsimp only at hSw)
              simp only [List.getElem_toArray, List.getElem_cons_zero, List.getElem_cons_succ]
              go_simp
              all_goals (try with_reducible rfl)
            try simp only [Act.put, List.setIfInBounds_toArray, List.set_cons_zero, List.set_cons_succ, List.getElem_toArray, List.getElem_cons_zero, List.getElem_cons_succ]
            refine wpAnyH_take (i := 11) (v := ?_) (by rfl) (by kernel_rfl) (by kernel_rfl) (by kernel_rfl) (fun _ _ _ h => h) (Or.inl ⟨by rfl, ?_⟩) hHeld ?_
            rotate_left
            · intro w' hSw
              (try dsimp only at hSw)
              simp only [List.getElem_toArray, List.getElem_cons_zero, List.getElem_cons_succ]
              go_simp
              all_goals (try with_reducible rfl)
            try simp only [Act.put, List.setIfInBounds_toArray, List.set_cons_zero, List.set_cons_succ, List.getElem_toArray, List.getElem_cons_zero, List.getElem_cons_succ]
            refine wpAnyH_done (by kernel_rfl) ?_ _
            refine NoPanic.normal ?_
            clear hHeld
            go_wp2_with fail
            go_ret
            exact ⟨by rw [HV.out, HH.out, HC.out]; unfold asks hides; rw [HM.out, HB.out, HS.out, HZ.out]; simp, M.out.below⟩
      | true =>
        have HM := veil hm
        clear hm
        go_wp2_with fail
        go_ret
        exact ⟨by rw [HV.out, HH.out, HC.out]; unfold asks; rw [HM.out]; rfl, M.out.below⟩
    · go_enter Tryd.func12, Tryd.ntmps12
      go_wp2_with fail
      go_ret
      exact ⟨by rw [HV.out]; simp [hc], M.out.below⟩
  · go_enter Tryd.func12, Tryd.ntmps12
    go_wp2_with fail
    go_ret
    exact ⟨by rw [HV.out]; simp [hh], M.out.below⟩

set_option linter.unusedSimpArgs false in
theorem refValid_other (hk : Knw w) (G : Gd k m) (h : ¬ m.kind = 130 ∧ ¬ m.kind = 133 ∧ ¬ m.kind = 134 ∧ ¬ m.kind = 135 ∧ ¬ m.kind = 136 ∧ ¬ m.kind = 137 ∧ ¬ m.kind = 143) : Calls Tryd.prog 12 #[pv k v, mv m] w fun e w' => e = .returned (.bool (valid k m os)) ∧ Below w.heap.size w w' := by
  have M := veil ((two_new hk k v m).new (bv z16) 23 (g := w.heap.size + 1 + 1) (by simp))
  rw [z16_made] at M
  have VG := veil G
  have HV := veil (valid_free (os := os) (k := k) (asked_none h))
  have c0 := (msgAt M.out.lay mem1 VG.out.f).kind
  generalize m.kind = kd at c0 h
  obtain ⟨n0, n1, n2, n3, n4, n5, n6⟩ := h
  have d0 : (kd == 130) = false := by simp [n0]
  have d6 : (kd == 143) = false := by simp [n6]
  clear hk G
  by_cases hl : kd < 133
  · go_enter Tryd.func12, Tryd.ntmps12
    go_wp2_with fail
    go_ret
    exact ⟨by rw [HV.out]; rfl, M.out.below⟩
  · have hg : 137 < kd := by omega
    go_enter Tryd.func12, Tryd.ntmps12
    go_wp2_with fail
    go_ret
    exact ⟨by rw [HV.out]; rfl, M.out.below⟩

/-- the document's answer -/
theorem refValid (hk : Knw w) (G : Gd k m) (hO : Op1 w m.opts os) : Calls Tryd.prog 12 #[pv k v, mv m] w fun e w' => e = .returned (.bool (valid k m os)) ∧ Below w.heap.size w w' := by
  rcases kinds_of m with h | h | h | h | h | h | h | h
  · exact refValid_130 k v m os w hk G hO h
  · exact refValid_133 k v m os w hk G hO h
  · exact refValid_134 k v m os w hk G hO h
  · exact refValid_135 k v m os w hk G hO h
  · exact refValid_136 k v m os w hk G hO h
  · exact refValid_137 k v m os w hk G hO h
  · exact refValid_143 k v m os w hk G hO h
  · exact refValid_other k v m os w hk G h
end

end Go.Proofs.YthkiamkhignchaaDoor.Ck
