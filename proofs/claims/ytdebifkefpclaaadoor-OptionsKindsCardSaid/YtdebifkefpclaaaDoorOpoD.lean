/-
  An option of domains, by the code.
  Conditions: texts of at most 16000000 bytes; at most 16000000 bytes all in all; the library's cell holds a number.
-/
import Derived.Test.YtdebifkefpclaaaDoorOpoE
import Derived.Deep.CutRange
namespace Go.Proofs.YtdebifkefpclaaaDoor.Oz
set_option maxRecDepth 100000
open Go.RowKit Ops

/-- strings that lie in a slice -/
def ReadsS (w : World) (A : Option Addr) (ss : List Str) : Prop := ∀ (i : Nat) (s : Str), ss[i]? = some s → ∃ a, A = some a ∧ w.cell? (a.add i) = some (.string (bs s))
/-- the bytes of a number of seconds -/
def lifeB (n : Int) : List Int := [0, 0] ++ be n 4
theorem lifeB_len (n : Int) : (lifeB n).length = 6 := by simp [lifeB, be_length]
def nameOf (s : Str) : List Int := if nameOk s then nameB s else []
/-- what is in the data of domains -/
def domB (life : Int) (ss : List Str) : List Int := lifeB life ++ ss.flatMap nameOf
theorem dom_next {life : Int} {ss : List Str} {i : Nat} {s : Str} (h : ss[i]? = some s) : domB life (ss.take (i + 1)) = domB life (ss.take i) ++ nameOf s := by
  have : ss.take (i + 1) = ss.take i ++ [s] := by
    rw [List.take_add_one, h]
    rfl
  unfold domB
  rw [this]
  simp
theorem dom_take (life : Int) (ss : List Str) (i : Nat) : (domB life (ss.take i)).length ≤ (domB life ss).length := by
  have : ss.flatMap nameOf = (ss.take i).flatMap nameOf ++ (ss.drop i).flatMap nameOf := by rw [← List.flatMap_append, List.take_append_drop]
  unfold domB
  rw [this]
  simp

/-- a row of bytes that is one's own -/
theorem own_whole {w : World} {g base n : Nat} {xs : List Int} (h : Row w g 5 (bv xs).toArray) (hb : base ≤ g) (hn : xs.length = n) (hm : n ≤ 16777216) : Own w base (.slice (some ⟨g, 0, none⟩) n n) xs := by
  subst hn
  refine ⟨by simp [bv_length], .inr ⟨g, xs.length, (bv xs).toArray, rfl, hb, h, Nat.le_refl _, by unfold maxLen; omega, by simp [bv_length], ?_⟩⟩
  rw [Nat.mul_one, List.take_of_length_le (by simp [bv_length])]

set_option linter.unusedSimpArgs false in
set_option maxHeartbeats 1000000 in
theorem number_any (n : Int) (w : World) (hn : 0 ≤ n ∧ n ≤ 4294967295) : Calls Tryd.prog 76 #[.int .u32 n] w fun e w' => ∃ g, w.heap.size ≤ g ∧ e = .returned (.slice (some ⟨g, 0, none⟩) 6 6) ∧ Row w' g 5 (bv (lifeB n)).toArray ∧ Below w.heap.size w w' := by
  have hmk := run_make_u8 2 (by omega) w
  have Y := (Lay.begin w).newA (zeros 2) 5 (g := w.heap.size) rfl
  have hwn : IntKind.u64.wrap n = n := by rw [IntKind.wrap_u64]; omega
  have hrow : Row (w.alloc (.cells (zeros 2) 5)) w.heap.size 5 (bv [0, 0]).toArray := by
    have := Y.at mem0
    rwa [show (zeros 2).toList = bv [0, 0] by rw [zeros_list]; rfl] at this
  have hrd : Rd (w.alloc (.cells (zeros 2) 5)) (some ⟨w.heap.size, 0, none⟩) [0, 0] := rd_row hrow (fun j hj => by rw [Nat.zero_add]; exact bv_get [0, 0] j hj)
  have K := put_yes (some ⟨w.heap.size, 0, none⟩) 2 2 [0, 0] n 4 (w.alloc (.cells (zeros 2) 5)) rfl (by omega) hrd (by omega) (by omega)
  have VK := veil K
  have VY := veil Y
  clear Y K hrd hrow
  simp only [Int.cast_ofNat_Int] at hmk
  go_enter Tryd.func76, Tryd.ntmps76
  go_wp2_with fail
  refine (VK.out).mono ?_
  rintro e w' ⟨rfl, rfl⟩
  have Y2 := VY.out.new (bv ([0, 0] ++ be n 4)) 5 (g := w.heap.size + 1) (by simp)
  have VY2 := veil Y2
  clear VK Y2 VY hmk
  go_wp2_with fail
  go_ret
  exact ⟨_, (VY2.out.own _ mem0), rfl, VY2.out.at mem0, VY2.out.below⟩

set_option linter.unusedSimpArgs false in
set_option maxHeartbeats 4000000 in
theorem domains_any (life : Int) (A : Option Addr) (n c : Nat) (ss : List Str) (w : World) (hlife : 0 ≤ life ∧ life ≤ 4294967295) (hl : ss.length = n) (hn : n ≤ 1000000) (ha : ReadsS w A ss) (hs : ∀ s ∈ ss, s.length ≤ 16000000) (hz : (domB life ss).length ≤ 16000000) (hm : Mx w) :
    Calls Tryd.prog 36 #[.int .u32 life, .slice A n c] w fun e w' => ∃ g, w.heap.size ≤ g ∧ e = .returned (ov ⟨31, some ⟨g, 0, none⟩, (domB life ss).length, (domB life ss).length⟩) ∧ Row w' g 5 (bv (domB life ss)).toArray ∧ Below w.heap.size w w' := by
  have HA := veil ha
  have HL := veil hl
  have HS := veil hs
  have HZ := veil hz
  have HM := veil hm
  have in16 : (n : Int) ≤ 2000000 := by omega
  obtain ⟨ZF, hZF⟩ : ∃ Z : Array Value, Z = #[.int .u8 0, .slice none 0 0] := ⟨_, rfl⟩
  have hzf : Hid (ZF.toList.length = 2) := by rw [hZF]; exact rfl
  have Y1 := (Lay.begin w).newA ZF 29 (g := w.heap.size) rfl
  have K := veil (number_any life (w.alloc (.cells ZF 29)) hlife)
  have VY := veil Y1
  clear ha hl hs hz hm hlife Y1
  generalize hw0 : w.alloc (.cells ZF 29) = w0 at *
  obtain ⟨g0, hg0⟩ : ∃ g, w.heap.size = g := ⟨_, rfl⟩
  rw [hg0] at VY
  have HG0 := veil hg0
  subst hZF
  go_enter Tryd.func36, Tryd.ntmps36
  go_upto_region 1 with fail
  clear hw0 hg0
  go_wp2_with fail
  refine (K.out).mono ?_
  rintro e w1 ⟨gn, hgn, rfl, hr, q⟩
  have hg1 : g0 < gn := by have := VY.out.lt mem0; omega
  have hlt1 : gn < w1.heap.size := hr.lt
  have VG := veil (show Grow w w1 [(g0, 29, [.int .u8 0, .slice none 0 0])] gn (.slice (some ⟨gn, 0, none⟩) 6 6) (domB life []) from
    ⟨VY.out.keep q, own_whole (by simpa [domB] using hr) (Nat.le_refl _) (by simp [domB, lifeB_len]) (by omega), by have := VY.out.size; omega, Nat.le_of_lt hlt1, fun x hx => by simp at hx; subst hx; exact hg1⟩)
  clear K q hr hgn VY hg1 hlt1 hzf
  go_wp2_with fail
  go_loopw [5, 12] (fun s5 s12 wr => ∃ j : Nat, j ≤ n ∧ s12 = .int .i64 j ∧ Hid (Grow w wr [(g0, 29, [.int .u8 0, .slice none 0 0])] gn s5 (domB life (ss.take j)))) (fun _ s12 _ => n - (intOf s12).toNat)
  case atStart => exact ⟨0, Nat.zero_le _, rfl, veil (by simpa using VG.out)⟩
  case round =>
    rename World => wr
    obtain ⟨j, hj, rfl, VB⟩ := hrel
    clear VG
    by_cases hlt : j < n
    · have ij : (j : Int) < (n : Int) := by omega
      obtain ⟨s, hsj⟩ : ∃ s, ss[j]? = some s := ⟨_, List.getElem?_eq_getElem (by rw [HL.out]; exact hlt)⟩
      obtain ⟨a, ha, c1⟩ := HA.out j s hsj
      subst ha
      have c1 := cell_keep c1 VB.out.lay.below
      have KN := isName_any s wr (HS.out s (List.mem_of_getElem? hsj)) (HM.out.keep VB.out.lay.below)
      have hsz := dom_take life ss (j + 1)
      rw [dom_next hsj] at hsz
      have HD := veil (dom_next (life := life) hsj)
      have HLT := veil hsz
      clear hsz hsj
      cases hz : nameOk s
      · rw [hz] at KN
        have HE : Hid (nameOf s = []) := veil (by unfold nameOf; rw [hz]; rfl)
        replace KN := veil KN
        clear hz
        go_wp2_with fail
        refine (KN.out).mono ?_
        rintro e w2 ⟨rfl, q2⟩
        have VB2 := veil (VB.out.keep q2)
        clear KN q2 VB c1
        go_wp2_with fail
        go_roundw
        case rel => exact ⟨j + 1, by omega, by go_num, veil (by rw [HD.out, HE.out, List.append_nil]; exact VB2.out)⟩
        case measure => simp [intOf]; omega
      · have h253 : s.length ≤ 253 := by
          unfold nameOk at hz
          simp at hz
          exact hz.1
        rw [hz] at KN
        have HE : Hid (nameOf s = nameB s) := veil (by unfold nameOf; rw [hz]; rfl)
        replace KN := veil KN
        have H253 := veil h253
        clear hz h253
        go_wp2_with fail
        refine (KN.out).mono ?_
        rintro e w2 ⟨rfl, q2⟩
        have G2 := VB.out.keep q2
        have KB := veil (nameBytes_any s w2 H253.out (HM.out.keep G2.lay.below))
        have VB2 := veil G2
        clear KN q2 VB c1 G2
        go_wp2_with fail
        refine (KB.out).mono ?_
        rintro e w3 ⟨v3, rfl, s3, q3⟩
        obtain ⟨v4, w4, H4, G4⟩ := (VB2.out.keep q3).append s3 (by have := HLT.out; have := HZ.out; rw [HE.out] at *; rw [List.length_append] at *; omega) 26
        have VH4 := veil H4
        have VG4 := veil G4
        clear KB q3 s3 H4 G4 VB2
        go_wp2_with (at_builtin; refine wpList_append_run rfl (.tmp 18) (.tmp 20) rfl rfl rfl VH4.out ?_)
        go_roundw
        case rel => exact ⟨j + 1, by omega, by go_num, veil (by rw [HD.out, HE.out]; exact VG4.out)⟩
        case measure => simp [intOf]; omega
    · obtain rfl : j = n := by omega
      have ij : ¬ (j : Int) < (j : Int) := by omega
      have hfull : ss.take j = ss := List.take_of_length_le (by rw [HL.out]; omega)
      rw [hfull] at VB
      obtain ⟨A5, c5, e5, _, _⟩ := VB.out.own.slc.slice
      subst e5
      obtain ⟨N, hN⟩ : ∃ N, (domB life ss).length = N := ⟨_, rfl⟩
      have HNN := veil hN
      rw [hN] at VB HZ
      have Y2 := VB.out.lay.new [.slice A5 N c5] 26 (g := wr.heap.size) rfl
      have hrl : ReadsL (wr.alloc (.cells #[.slice A5 N c5] 26)) (some ⟨wr.heap.size, 0, none⟩) [domB life ss] := fun i zs hi => by
        have h0 : i = 0 := by
          have := (List.getElem?_eq_some_iff.1 hi).1
          simpa using this
        subst h0
        simp at hi
        subst hi
        refine ⟨_, A5, N, c5, rfl, ?_, (VB.out.own.slc).keep (below_new wr _)⟩
        rw [show (⟨wr.heap.size, 0, none⟩ : Addr).add 0 = ⟨wr.heap.size, 0, none⟩ by simp [Addr.add]]
        exact Y2.look mem0 rfl
      have KJ := join_any (some ⟨wr.heap.size, 0, none⟩) 1 1 [domB life ss] (wr.alloc (.cells #[.slice A5 N c5] 26)) rfl (by omega) hrl (by unfold lenL; simp; have := HZ.out; omega)
      have hlen1 : lenL [domB life ss] = N := by unfold lenL; simp [hN]
      rw [hlen1, show [domB life ss].flatten = domB life ss by simp] at KJ
      replace KJ := veil KJ
      have VY2 := veil (Y2.sub (L' := [(g0, 29, [.int .u8 0, .slice none 0 0])]) (List.Sublist.cons _ (List.Sublist.cons_cons _ (List.nil_sublist _))))
      have hww : w.heap.size ≤ wr.heap.size := VB.out.lay.size
      clear Y2 hrl hfull VB
      go_wp2_with fail
      refine (KJ.out).mono ?_
      rintro e w5 ⟨gj, hgj, rfl, rj, q5⟩
      have Y5 := VY2.out.got q5 rj hgj
      have hgjw : w.heap.size ≤ gj := by simp at hgj; omega
      have T1 := veil (store_all (P := Tryd.prog) (ty := 29) (vs := tv ⟨31, some ⟨gj, 0, none⟩, N, N⟩) (Y5.at mem1) rfl zeroO (by intro v hv; simp at hv; rcases hv with rfl | rfl <;> rfl))
      have Y6 := Y5.put 1 rfl (tv ⟨31, some ⟨gj, 0, none⟩, N, N⟩)
      simp only [List.set_cons_zero, List.set_cons_succ] at Y6
      have VY6 := veil Y6
      clear KJ q5 rj hgj VY2 Y5 Y6
      go_wp2_with (refine wpList_store_of rfl _ _ rfl rfl rfl T1.out ?_)
      refine bodyPost_ret (ret_row rfl rfl (VY6.out.range mem1 (part_all _)) Tryd.underlying29 rfl zeroO) rfl ?_
      rw [HNN.out]
      exact ⟨gj, hgjw, rfl, VY6.out.at mem0, VY6.out.below⟩

end Go.Proofs.YtdebifkefpclaaaDoor.Oz
