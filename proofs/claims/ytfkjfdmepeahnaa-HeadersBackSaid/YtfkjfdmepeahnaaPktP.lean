/-
  The bytes of a packet, by the document's answer.
  Conditions: addresses of sixteen bytes; a body that reads as bytes, 16000000 at most.
-/
import Derived.Test.YtfkjfdmepeahnaaPktN
import Derived.Test.YtfkjfdmepeahnaaLayH
namespace Go.Proofs.Ytfkjfdmepeahnaa.Hd
set_option maxRecDepth 100000
open Go.RowKit

/-- how many bytes stand behind the fixed header -/
def sizeP (k : Pk) (n : Nat) : Int := n + (if k.frag.is then 8 else 0) + (if k.alert then 8 else 0)
def behindP (k : Pk) : Int := if k.frag.is then 44 else k.next
def firstP (k : Pk) : Int := if k.alert then 0 else behindP k
def wordP (k : Pk) : Int := 8 * k.frag.off + (if k.frag.more then 1 else 0)
def headP (k : Pk) (n : Nat) : List Int := [96, 0, 0, 0, sizeP k n / 256, sizeP k n % 256, firstP k, k.hops]
def alertP (k : Pk) : List Int := if k.alert then [behindP k, 0, 5, 2, 0, 0, 1, 0] else []
def partP (k : Pk) : List Int := if k.frag.is then [k.next, 0, wordP k / 256, wordP k % 256] ++ be k.frag.id 4 else []
/-- a packet's bytes -/
def pb (k : Pk) (zs : List Int) : List Int := headP k zs.length ++ (k.s ++ (k.d ++ (alertP k ++ (partP k ++ zs))))
/-- may it be put? -/
def OkP (k : Pk) (n : Nat) : Prop := sizeP k n ≤ 65535 ∧ (k.frag.is = true → k.frag.off ≤ 8191)
/-- the numbers of a packet are what their kinds hold -/
structure Holds (k : Pk) : Prop where
  hops : 0 ≤ k.hops ∧ k.hops ≤ 255
  next : 0 ≤ k.next ∧ k.next ≤ 255
  off : 0 ≤ k.frag.off ∧ k.frag.off < 65536
  id : 0 ≤ k.frag.id ∧ k.frag.id < 4294967296

theorem Grow.lit {w0 w : World} {L : List Blk} (h : Lay w0 w L) (xs : List Int) (n : Nat) (hn : xs.length = n) (hm : n ≤ 1000) : Grow w0 (w.alloc (.cells (bv xs).toArray 5)) L w.heap.size (.slice (some ⟨w.heap.size, 0, none⟩) n n) xs := by
  refine ⟨h.keep (below_new w _), ?_, h.size, by simp, fun x hx => (h.row x hx).lt⟩
  subst hn
  refine ⟨by simp [bv_length], .inr ⟨w.heap.size, xs.length, (bv xs).toArray, rfl, Nat.le_refl _, heap_alloc_new w _, Nat.le_refl _, by unfold maxLen; omega, by simp [bv_length], ?_⟩⟩
  rw [Nat.mul_one, List.take_of_length_le (by simp [bv_length])]

set_option linter.unusedSimpArgs false in
set_option linter.unusedSimpArgs false in
set_option maxRecDepth 100000 in
set_option maxHeartbeats 4000000 in
theorem refPut_nnn (s d : List Int) (hops next id off : Int) (A : Option Addr) (n c : Nat) (zs : List Int) (w : World) (hsl : s.length = 16) (hdl : d.length = 16) (more : Bool) (hs : Slc w (.slice A n c) zs) (hz : (n : Int) + 0 ≤ 65535) :
    Calls Try.prog 12 #[pv ⟨s, d, hops, false, ⟨false, id, off, more⟩, next⟩ (.slice A n c)] w fun e w' => ∃ v, e = .returned (.tuple #[v, .int .i64 0]) ∧ Gives w (pb ⟨s, d, hops, false, ⟨false, id, off, more⟩, next⟩ zs) (.returned v) w' := by
  have hzl : zs.length = n := (slc_of hs).1
  obtain ⟨k, hk⟩ : ∃ k : Pk, k = ⟨s, d, hops, false, ⟨false, id, off, more⟩, next⟩ := ⟨_, rfl⟩
  rw [← hk]
  have ehops : k.hops = hops := by rw [hk]
  have enext : k.next = next := by rw [hk]
  have ealert : k.alert = false := by rw [hk]
  have eis : k.frag.is = false := by rw [hk]
  have eoff : k.frag.off = off := by rw [hk]
  have eid : k.frag.id = id := by rw [hk]
  have emore : k.frag.more = more := by rw [hk]
  have M : Ends k := by rw [hk]; exact ⟨hsl, hdl⟩
  obtain ⟨q1, hq1⟩ : ∃ q, ((n : Int) + 0) / 256 = q := ⟨_, rfl⟩
  obtain ⟨q2, hq2⟩ : ∃ q, ((n : Int) + 0) % 256 = q := ⟨_, rfl⟩
  have epb : pb k zs = [96, 0, 0, 0, q1, q2, next, hops] ++ k.s ++ k.d ++ zs := by
    rw [hk]
    simp only [pb, headP, alertP, partP, sizeP, firstP, behindP, wordP, hzl, if_true, if_false, Bool.false_eq_true]
    simp [← hq1, ← hq2, Int.add_assoc]
  have Y := (Lay.begin w).new (pc k (.slice A n c)) 30 (g := w.heap.size) rfl
  have G0 := Grow.lit Y [96, 0, 0, 0, q1, q2, next, hops] 8 rfl (by omega)
  obtain ⟨v1, w1, h1, G1⟩ := G0.append (slc_part (n := 16) (c := 16) (G0.lay.at mem0) pc_src M.s (by omega)) (by simp [M.s]) 28
  obtain ⟨v2, w2, h2, G2⟩ := G1.append (slc_part (n := 16) (c := 16) (G1.lay.at mem0) (pc_dst M) M.d (by omega)) (by simp [M.s, M.d]) 28
  have y0 := Y.look mem0 (pc_hops M)
  have y1 := Y.look mem0 (pc_next M)
  have y2 := Y.look mem0 (pc_body M)
  have y3 := Y.look mem0 (pc_alert M)
  have y4 := Y.range mem0 (pc_frag M) 0 _ rfl
  have y5 := Y.range mem0 (pc_frag M) 2 _ rfl
  have c0 := G2.lay.look mem0 (pc_alert M)
  simp only [ealert] at c0
  have c1 := G2.lay.range mem0 (pc_frag M) 0 _ rfl
  simp only [eis] at c1
  have c2 := G2.lay.look mem0 (pc_body M)
  obtain ⟨v5, w5, h5, G7⟩ := G2.append (hs.keep G2.lay.below) (by simp [M.s, M.d, hzl]; omega) 28
  replace h1 : (Builtin.append_ #[28, 28] 28 #[.slice (some ⟨w.heap.size + 1, 0, none⟩) 8 8, .slice (some ⟨w.heap.size, 0, none⟩) 16 16]).run Try.prog ((w.alloc (.cells (pc k (.slice A n c)).toArray 30)).alloc (.cells #[.int .u8 96, .int .u8 0, .int .u8 0, .int .u8 0, .int .u8 q1, .int .u8 q2, .int .u8 next, .int .u8 hops] 5)) = .ok v1 w1 := by
    have e : (w.alloc (.cells (pc k (.slice A n c)).toArray 30)).heap.size = w.heap.size + 1 := by simp
    rw [e] at h1
    exact h1
  have GG := veil G7.gives
  rw [← epb] at GG
  have H1 := veil h1
  have H2 := veil h2
  have H5 := veil h5
  simp only [ehops] at y0
  simp only [enext] at y1
  simp only [ealert] at y3
  simp only [eis] at y4
  simp only [eoff] at y5
  have b16 : (n : Int) ≤ 65535 := by omega
  replace hq1 := veil hq1
  replace hq2 := veil hq2
  have eq1 := hq1.out
  have eq2 := hq2.out
  simp only [Int.add_zero] at eq1 eq2
  have dz : decide ((65535 : Int) < (n : Int)) = false := by simp; omega
  clear hzl hsl hdl hz hq1 hq2
  clear G0 G1 G2 G7 h1 h2 h5 Y hs epb M hk ehops enext ealert eis eoff emore eid
  go_enter Try.func12, Try.ntmps12
  go_wp2_with (first
    | (at_builtin; refine wpList_append_run rfl (.tmp 48) (.tmp 50) rfl rfl rfl H1.out ?_)
    | (at_builtin; refine wpList_append_run rfl (.tmp 52) (.tmp 54) rfl rfl rfl H2.out ?_)
    | (at_builtin; refine wpList_append_run rfl (.tmp 100) (.tmp 102) rfl rfl rfl H5.out ?_))
  refine bodyPost_ret (results_tmp2 rfl _ _ _) rfl ?_
  exact ⟨_, rfl, GG.out⟩

set_option linter.unusedSimpArgs false in
set_option maxRecDepth 100000 in
set_option maxHeartbeats 4000000 in
theorem refPut_nin (s d : List Int) (hops next id off : Int) (A : Option Addr) (n c : Nat) (zs : List Int) (w : World) (hsl : s.length = 16) (hdl : d.length = 16) (bi : 0 ≤ id ∧ id < 4294967296) (bo : 0 ≤ off ∧ off ≤ 8191) (more : Bool) (hmo : more = false) (hs : Slc w (.slice A n c) zs) (hz : (n : Int) + 8 ≤ 65535) :
    Calls Try.prog 12 #[pv ⟨s, d, hops, false, ⟨true, id, off, more⟩, next⟩ (.slice A n c)] w fun e w' => ∃ v, e = .returned (.tuple #[v, .int .i64 0]) ∧ Gives w (pb ⟨s, d, hops, false, ⟨true, id, off, more⟩, next⟩ zs) (.returned v) w' := by
  have hzl : zs.length = n := (slc_of hs).1
  obtain ⟨k, hk⟩ : ∃ k : Pk, k = ⟨s, d, hops, false, ⟨true, id, off, more⟩, next⟩ := ⟨_, rfl⟩
  rw [← hk]
  have ehops : k.hops = hops := by rw [hk]
  have enext : k.next = next := by rw [hk]
  have ealert : k.alert = false := by rw [hk]
  have eis : k.frag.is = true := by rw [hk]
  have eoff : k.frag.off = off := by rw [hk]
  have eid : k.frag.id = id := by rw [hk]
  have emore : k.frag.more = false := by rw [hk, hmo]
  have M : Ends k := by rw [hk]; exact ⟨hsl, hdl⟩
  obtain ⟨q1, hq1⟩ : ∃ q, ((n : Int) + 8) / 256 = q := ⟨_, rfl⟩
  obtain ⟨q2, hq2⟩ : ∃ q, ((n : Int) + 8) % 256 = q := ⟨_, rfl⟩
  obtain ⟨q3, hq3⟩ : ∃ q, (8 * off + 0) / 256 = q := ⟨_, rfl⟩
  obtain ⟨q4, hq4⟩ : ∃ q, (8 * off + 0) % 256 = q := ⟨_, rfl⟩
  obtain ⟨i1, hi1⟩ : ∃ q, id / 16777216 = q := ⟨_, rfl⟩
  obtain ⟨i2, hi2⟩ : ∃ q, id / 65536 % 256 = q := ⟨_, rfl⟩
  obtain ⟨i3, hi3⟩ : ∃ q, id / 256 % 256 = q := ⟨_, rfl⟩
  obtain ⟨i4, hi4⟩ : ∃ q, id % 256 = q := ⟨_, rfl⟩
  have epb : pb k zs = [96, 0, 0, 0, q1, q2, 44, hops] ++ k.s ++ k.d ++ [next, 0, q3, q4, i1, i2, i3, i4] ++ zs := by
    rw [hk]
    simp only [pb, headP, alertP, partP, sizeP, firstP, behindP, wordP, hzl, if_true, if_false, Bool.false_eq_true, hmo]
    have e4 : be id 4 = [i1, i2, i3, i4] := by
      rw [← hi1, ← hi2, ← hi3, ← hi4]
      simp only [be]
      simp
      omega
    rw [e4]
    simp [← hq1, ← hq2, ← hq3, ← hq4, Int.add_assoc]
  have Y := (Lay.begin w).new (pc k (.slice A n c)) 30 (g := w.heap.size) rfl
  have G0 := Grow.lit Y [96, 0, 0, 0, q1, q2, 44, hops] 8 rfl (by omega)
  obtain ⟨v1, w1, h1, G1⟩ := G0.append (slc_part (n := 16) (c := 16) (G0.lay.at mem0) pc_src M.s (by omega)) (by simp [M.s]) 28
  obtain ⟨v2, w2, h2, G2⟩ := G1.append (slc_part (n := 16) (c := 16) (G1.lay.at mem0) (pc_dst M) M.d (by omega)) (by simp [M.s, M.d]) 28
  have y0 := Y.look mem0 (pc_hops M)
  have y1 := Y.look mem0 (pc_next M)
  have y2 := Y.look mem0 (pc_body M)
  have y3 := Y.look mem0 (pc_alert M)
  have y4 := Y.range mem0 (pc_frag M) 0 _ rfl
  have y5 := Y.range mem0 (pc_frag M) 2 _ rfl
  have c0 := G2.lay.look mem0 (pc_alert M)
  simp only [ealert] at c0
  have c1 := G2.lay.range mem0 (pc_frag M) 0 _ rfl
  simp only [eis] at c1
  have c2 := G2.lay.range mem0 (pc_frag M) 2 _ rfl
  simp only [eoff] at c2
  have c3 := G2.lay.range mem0 (pc_frag M) 3 _ rfl
  simp only [emore] at c3
  have c4 := G2.lay.range mem0 (pc_frag M) 1 _ rfl
  simp only [eid] at c4
  have c5 := G2.lay.look mem0 (pc_next M)
  simp only [enext] at c5
  have G5 := G2.keep (below_new w2 (.cells (bv [next, 0, q3, q4, i1, i2, i3, i4]).toArray 5))
  obtain ⟨v4, w4, h4, G6⟩ := G5.append (slc_part (n := 8) (c := 8) (row_new (w := w2) (g := w2.heap.size) (t := 5) (cs := (bv [next, 0, q3, q4, i1, i2, i3, i4]).toArray) rfl) (part_all _) rfl (by omega)) (by simp [M.s, M.d]) 28
  replace h4 : (Builtin.append_ #[28, 28] 28 #[v2, .slice (some ⟨w2.heap.size, 0, none⟩) 8 8]).run Try.prog (w2.alloc (.cells #[.int .u8 next, .int .u8 0, .int .u8 q3, .int .u8 q4, .int .u8 i1, .int .u8 i2, .int .u8 i3, .int .u8 i4] 5)) = .ok v4 w4 := h4
  have c6 := G6.lay.look mem0 (pc_body M)
  obtain ⟨v5, w5, h5, G7⟩ := G6.append (hs.keep G6.lay.below) (by simp [M.s, M.d, hzl]; omega) 28
  replace h1 : (Builtin.append_ #[28, 28] 28 #[.slice (some ⟨w.heap.size + 1, 0, none⟩) 8 8, .slice (some ⟨w.heap.size, 0, none⟩) 16 16]).run Try.prog ((w.alloc (.cells (pc k (.slice A n c)).toArray 30)).alloc (.cells #[.int .u8 96, .int .u8 0, .int .u8 0, .int .u8 0, .int .u8 q1, .int .u8 q2, .int .u8 44, .int .u8 hops] 5)) = .ok v1 w1 := by
    have e : (w.alloc (.cells (pc k (.slice A n c)).toArray 30)).heap.size = w.heap.size + 1 := by simp
    rw [e] at h1
    exact h1
  have GG := veil G7.gives
  rw [← epb] at GG
  have H1 := veil h1
  have H2 := veil h2
  have H4 := veil h4
  have H5 := veil h5
  simp only [ehops] at y0
  simp only [enext] at y1
  simp only [ealert] at y3
  simp only [eis] at y4
  simp only [eoff] at y5
  have b16 : (n : Int) ≤ 65535 := by omega
  replace hq1 := veil hq1
  replace hq2 := veil hq2
  obtain ⟨z1, ez1⟩ : ∃ z, (n : Int) + 8 = z := ⟨_, rfl⟩
  have eq1 : z1 / 256 = q1 := by have := hq1.out; omega
  have eq2 : z1 % 256 = q2 := by have := hq2.out; omega
  have bz : 0 ≤ z1 ∧ z1 ≤ 65535 := by omega
  have dz : decide ((65535 : Int) < z1) = false := by simp; omega
  replace hq3 := veil hq3
  replace hq4 := veil hq4
  obtain ⟨y, ey⟩ : ∃ y, 8 * off = y := ⟨_, rfl⟩
  have eq3 : y / 256 = q3 := by have := hq3.out; omega
  have eq4 : y % 256 = q4 := by have := hq4.out; omega
  have by0 : 0 ≤ y ∧ y ≤ 65528 := by omega
  have do0 : decide ((8191 : Int) < off) = false := by simp; omega
  clear hzl hsl hdl hz hq1 hq2 hq3 hq4 hmo
  clear G0 G1 G2 G7 h1 h2 h5 Y hs epb M hk ehops enext ealert eis eoff emore eid h4 G5 G6
  go_enter Try.func12, Try.ntmps12
  go_wp2_with (first
    | (at_builtin; refine wpList_append_run rfl (.tmp 48) (.tmp 50) rfl rfl rfl H1.out ?_)
    | (at_builtin; refine wpList_append_run rfl (.tmp 52) (.tmp 54) rfl rfl rfl H2.out ?_)
    | (at_builtin; refine wpList_append_run rfl (.tmp 78) (.tmp 98) rfl rfl rfl H4.out ?_)
    | (at_builtin; refine wpList_append_run rfl (.tmp 100) (.tmp 102) rfl rfl rfl H5.out ?_))
  refine bodyPost_ret (results_tmp2 rfl _ _ _) rfl ?_
  exact ⟨_, rfl, GG.out⟩

set_option linter.unusedSimpArgs false in
set_option maxRecDepth 100000 in
set_option maxHeartbeats 4000000 in
theorem refPut_nim (s d : List Int) (hops next id off : Int) (A : Option Addr) (n c : Nat) (zs : List Int) (w : World) (hsl : s.length = 16) (hdl : d.length = 16) (bi : 0 ≤ id ∧ id < 4294967296) (bo : 0 ≤ off ∧ off ≤ 8191) (more : Bool) (hmo : more = true) (hs : Slc w (.slice A n c) zs) (hz : (n : Int) + 8 ≤ 65535) :
    Calls Try.prog 12 #[pv ⟨s, d, hops, false, ⟨true, id, off, more⟩, next⟩ (.slice A n c)] w fun e w' => ∃ v, e = .returned (.tuple #[v, .int .i64 0]) ∧ Gives w (pb ⟨s, d, hops, false, ⟨true, id, off, more⟩, next⟩ zs) (.returned v) w' := by
  have hzl : zs.length = n := (slc_of hs).1
  obtain ⟨k, hk⟩ : ∃ k : Pk, k = ⟨s, d, hops, false, ⟨true, id, off, more⟩, next⟩ := ⟨_, rfl⟩
  rw [← hk]
  have ehops : k.hops = hops := by rw [hk]
  have enext : k.next = next := by rw [hk]
  have ealert : k.alert = false := by rw [hk]
  have eis : k.frag.is = true := by rw [hk]
  have eoff : k.frag.off = off := by rw [hk]
  have eid : k.frag.id = id := by rw [hk]
  have emore : k.frag.more = true := by rw [hk, hmo]
  have M : Ends k := by rw [hk]; exact ⟨hsl, hdl⟩
  obtain ⟨q1, hq1⟩ : ∃ q, ((n : Int) + 8) / 256 = q := ⟨_, rfl⟩
  obtain ⟨q2, hq2⟩ : ∃ q, ((n : Int) + 8) % 256 = q := ⟨_, rfl⟩
  obtain ⟨q3, hq3⟩ : ∃ q, (8 * off + 1) / 256 = q := ⟨_, rfl⟩
  obtain ⟨q4, hq4⟩ : ∃ q, (8 * off + 1) % 256 = q := ⟨_, rfl⟩
  obtain ⟨i1, hi1⟩ : ∃ q, id / 16777216 = q := ⟨_, rfl⟩
  obtain ⟨i2, hi2⟩ : ∃ q, id / 65536 % 256 = q := ⟨_, rfl⟩
  obtain ⟨i3, hi3⟩ : ∃ q, id / 256 % 256 = q := ⟨_, rfl⟩
  obtain ⟨i4, hi4⟩ : ∃ q, id % 256 = q := ⟨_, rfl⟩
  have epb : pb k zs = [96, 0, 0, 0, q1, q2, 44, hops] ++ k.s ++ k.d ++ [next, 0, q3, q4, i1, i2, i3, i4] ++ zs := by
    rw [hk]
    simp only [pb, headP, alertP, partP, sizeP, firstP, behindP, wordP, hzl, if_true, if_false, Bool.false_eq_true, hmo]
    have e4 : be id 4 = [i1, i2, i3, i4] := by
      rw [← hi1, ← hi2, ← hi3, ← hi4]
      simp only [be]
      simp
      omega
    rw [e4]
    simp [← hq1, ← hq2, ← hq3, ← hq4, Int.add_assoc]
  have Y := (Lay.begin w).new (pc k (.slice A n c)) 30 (g := w.heap.size) rfl
  have G0 := Grow.lit Y [96, 0, 0, 0, q1, q2, 44, hops] 8 rfl (by omega)
  obtain ⟨v1, w1, h1, G1⟩ := G0.append (slc_part (n := 16) (c := 16) (G0.lay.at mem0) pc_src M.s (by omega)) (by simp [M.s]) 28
  obtain ⟨v2, w2, h2, G2⟩ := G1.append (slc_part (n := 16) (c := 16) (G1.lay.at mem0) (pc_dst M) M.d (by omega)) (by simp [M.s, M.d]) 28
  have y0 := Y.look mem0 (pc_hops M)
  have y1 := Y.look mem0 (pc_next M)
  have y2 := Y.look mem0 (pc_body M)
  have y3 := Y.look mem0 (pc_alert M)
  have y4 := Y.range mem0 (pc_frag M) 0 _ rfl
  have y5 := Y.range mem0 (pc_frag M) 2 _ rfl
  have c0 := G2.lay.look mem0 (pc_alert M)
  simp only [ealert] at c0
  have c1 := G2.lay.range mem0 (pc_frag M) 0 _ rfl
  simp only [eis] at c1
  have c2 := G2.lay.range mem0 (pc_frag M) 2 _ rfl
  simp only [eoff] at c2
  have c3 := G2.lay.range mem0 (pc_frag M) 3 _ rfl
  simp only [emore] at c3
  have c4 := G2.lay.range mem0 (pc_frag M) 1 _ rfl
  simp only [eid] at c4
  have c5 := G2.lay.look mem0 (pc_next M)
  simp only [enext] at c5
  have G5 := G2.keep (below_new w2 (.cells (bv [next, 0, q3, q4, i1, i2, i3, i4]).toArray 5))
  obtain ⟨v4, w4, h4, G6⟩ := G5.append (slc_part (n := 8) (c := 8) (row_new (w := w2) (g := w2.heap.size) (t := 5) (cs := (bv [next, 0, q3, q4, i1, i2, i3, i4]).toArray) rfl) (part_all _) rfl (by omega)) (by simp [M.s, M.d]) 28
  replace h4 : (Builtin.append_ #[28, 28] 28 #[v2, .slice (some ⟨w2.heap.size, 0, none⟩) 8 8]).run Try.prog (w2.alloc (.cells #[.int .u8 next, .int .u8 0, .int .u8 q3, .int .u8 q4, .int .u8 i1, .int .u8 i2, .int .u8 i3, .int .u8 i4] 5)) = .ok v4 w4 := h4
  have c6 := G6.lay.look mem0 (pc_body M)
  obtain ⟨v5, w5, h5, G7⟩ := G6.append (hs.keep G6.lay.below) (by simp [M.s, M.d, hzl]; omega) 28
  replace h1 : (Builtin.append_ #[28, 28] 28 #[.slice (some ⟨w.heap.size + 1, 0, none⟩) 8 8, .slice (some ⟨w.heap.size, 0, none⟩) 16 16]).run Try.prog ((w.alloc (.cells (pc k (.slice A n c)).toArray 30)).alloc (.cells #[.int .u8 96, .int .u8 0, .int .u8 0, .int .u8 0, .int .u8 q1, .int .u8 q2, .int .u8 44, .int .u8 hops] 5)) = .ok v1 w1 := by
    have e : (w.alloc (.cells (pc k (.slice A n c)).toArray 30)).heap.size = w.heap.size + 1 := by simp
    rw [e] at h1
    exact h1
  have GG := veil G7.gives
  rw [← epb] at GG
  have H1 := veil h1
  have H2 := veil h2
  have H4 := veil h4
  have H5 := veil h5
  simp only [ehops] at y0
  simp only [enext] at y1
  simp only [ealert] at y3
  simp only [eis] at y4
  simp only [eoff] at y5
  have b16 : (n : Int) ≤ 65535 := by omega
  replace hq1 := veil hq1
  replace hq2 := veil hq2
  obtain ⟨z1, ez1⟩ : ∃ z, (n : Int) + 8 = z := ⟨_, rfl⟩
  have eq1 : z1 / 256 = q1 := by have := hq1.out; omega
  have eq2 : z1 % 256 = q2 := by have := hq2.out; omega
  have bz : 0 ≤ z1 ∧ z1 ≤ 65535 := by omega
  have dz : decide ((65535 : Int) < z1) = false := by simp; omega
  replace hq3 := veil hq3
  replace hq4 := veil hq4
  obtain ⟨y, ey⟩ : ∃ y, 8 * off = y := ⟨_, rfl⟩
  obtain ⟨y1, ey1⟩ : ∃ z, y + 1 = z := ⟨_, rfl⟩
  have eq3 : y1 / 256 = q3 := by have := hq3.out; omega
  have eq4 : y1 % 256 = q4 := by have := hq4.out; omega
  have by1 : 0 ≤ y1 ∧ y1 ≤ 65535 := by omega
  have by0 : 0 ≤ y ∧ y ≤ 65528 := by omega
  have do0 : decide ((8191 : Int) < off) = false := by simp; omega
  clear hzl hsl hdl hz hq1 hq2 hq3 hq4 hmo
  clear G0 G1 G2 G7 h1 h2 h5 Y hs epb M hk ehops enext ealert eis eoff emore eid h4 G5 G6
  go_enter Try.func12, Try.ntmps12
  go_wp2_with (first
    | (at_builtin; refine wpList_append_run rfl (.tmp 48) (.tmp 50) rfl rfl rfl H1.out ?_)
    | (at_builtin; refine wpList_append_run rfl (.tmp 52) (.tmp 54) rfl rfl rfl H2.out ?_)
    | (at_builtin; refine wpList_append_run rfl (.tmp 78) (.tmp 98) rfl rfl rfl H4.out ?_)
    | (at_builtin; refine wpList_append_run rfl (.tmp 100) (.tmp 102) rfl rfl rfl H5.out ?_))
  refine bodyPost_ret (results_tmp2 rfl _ _ _) rfl ?_
  exact ⟨_, rfl, GG.out⟩

set_option linter.unusedSimpArgs false in
set_option maxRecDepth 100000 in
set_option maxHeartbeats 4000000 in
theorem refPut_ann (s d : List Int) (hops next id off : Int) (A : Option Addr) (n c : Nat) (zs : List Int) (w : World) (hsl : s.length = 16) (hdl : d.length = 16) (more : Bool) (hs : Slc w (.slice A n c) zs) (hz : (n : Int) + 8 ≤ 65535) :
    Calls Try.prog 12 #[pv ⟨s, d, hops, true, ⟨false, id, off, more⟩, next⟩ (.slice A n c)] w fun e w' => ∃ v, e = .returned (.tuple #[v, .int .i64 0]) ∧ Gives w (pb ⟨s, d, hops, true, ⟨false, id, off, more⟩, next⟩ zs) (.returned v) w' := by
  have hzl : zs.length = n := (slc_of hs).1
  obtain ⟨k, hk⟩ : ∃ k : Pk, k = ⟨s, d, hops, true, ⟨false, id, off, more⟩, next⟩ := ⟨_, rfl⟩
  rw [← hk]
  have ehops : k.hops = hops := by rw [hk]
  have enext : k.next = next := by rw [hk]
  have ealert : k.alert = true := by rw [hk]
  have eis : k.frag.is = false := by rw [hk]
  have eoff : k.frag.off = off := by rw [hk]
  have eid : k.frag.id = id := by rw [hk]
  have emore : k.frag.more = more := by rw [hk]
  have M : Ends k := by rw [hk]; exact ⟨hsl, hdl⟩
  obtain ⟨q1, hq1⟩ : ∃ q, ((n : Int) + 8) / 256 = q := ⟨_, rfl⟩
  obtain ⟨q2, hq2⟩ : ∃ q, ((n : Int) + 8) % 256 = q := ⟨_, rfl⟩
  have epb : pb k zs = [96, 0, 0, 0, q1, q2, 0, hops] ++ k.s ++ k.d ++ [next, 0, 5, 2, 0, 0, 1, 0] ++ zs := by
    rw [hk]
    simp only [pb, headP, alertP, partP, sizeP, firstP, behindP, wordP, hzl, if_true, if_false, Bool.false_eq_true]
    simp [← hq1, ← hq2, Int.add_assoc]
  have Y := (Lay.begin w).new (pc k (.slice A n c)) 30 (g := w.heap.size) rfl
  have G0 := Grow.lit Y [96, 0, 0, 0, q1, q2, 0, hops] 8 rfl (by omega)
  obtain ⟨v1, w1, h1, G1⟩ := G0.append (slc_part (n := 16) (c := 16) (G0.lay.at mem0) pc_src M.s (by omega)) (by simp [M.s]) 28
  obtain ⟨v2, w2, h2, G2⟩ := G1.append (slc_part (n := 16) (c := 16) (G1.lay.at mem0) (pc_dst M) M.d (by omega)) (by simp [M.s, M.d]) 28
  have y0 := Y.look mem0 (pc_hops M)
  have y1 := Y.look mem0 (pc_next M)
  have y2 := Y.look mem0 (pc_body M)
  have y3 := Y.look mem0 (pc_alert M)
  have y4 := Y.range mem0 (pc_frag M) 0 _ rfl
  have y5 := Y.range mem0 (pc_frag M) 2 _ rfl
  have c0 := G2.lay.look mem0 (pc_alert M)
  simp only [ealert] at c0
  have G3 := G2.keep (below_new w2 (.cells (bv [next, 0, 5, 2, 0, 0, 1, 0]).toArray 5))
  obtain ⟨v3, w3, h3, G4⟩ := G3.append (slc_part (n := 8) (c := 8) (row_new (w := w2) (g := w2.heap.size) (t := 5) (cs := (bv [next, 0, 5, 2, 0, 0, 1, 0]).toArray) rfl) (part_all _) rfl (by omega)) (by simp [M.s, M.d]) 28
  replace h3 : (Builtin.append_ #[28, 28] 28 #[v2, .slice (some ⟨w2.heap.size, 0, none⟩) 8 8]).run Try.prog (w2.alloc (.cells #[.int .u8 next, .int .u8 0, .int .u8 5, .int .u8 2, .int .u8 0, .int .u8 0, .int .u8 1, .int .u8 0] 5)) = .ok v3 w3 := h3
  have c1 := G4.lay.range mem0 (pc_frag M) 0 _ rfl
  simp only [eis] at c1
  have c2 := G4.lay.look mem0 (pc_body M)
  obtain ⟨v5, w5, h5, G7⟩ := G4.append (hs.keep G4.lay.below) (by simp [M.s, M.d, hzl]; omega) 28
  replace h1 : (Builtin.append_ #[28, 28] 28 #[.slice (some ⟨w.heap.size + 1, 0, none⟩) 8 8, .slice (some ⟨w.heap.size, 0, none⟩) 16 16]).run Try.prog ((w.alloc (.cells (pc k (.slice A n c)).toArray 30)).alloc (.cells #[.int .u8 96, .int .u8 0, .int .u8 0, .int .u8 0, .int .u8 q1, .int .u8 q2, .int .u8 0, .int .u8 hops] 5)) = .ok v1 w1 := by
    have e : (w.alloc (.cells (pc k (.slice A n c)).toArray 30)).heap.size = w.heap.size + 1 := by simp
    rw [e] at h1
    exact h1
  have GG := veil G7.gives
  rw [← epb] at GG
  have H1 := veil h1
  have H2 := veil h2
  have H3 := veil h3
  have H5 := veil h5
  simp only [ehops] at y0
  simp only [enext] at y1
  simp only [ealert] at y3
  simp only [eis] at y4
  simp only [eoff] at y5
  have b16 : (n : Int) ≤ 65535 := by omega
  replace hq1 := veil hq1
  replace hq2 := veil hq2
  obtain ⟨z1, ez1⟩ : ∃ z, (n : Int) + 8 = z := ⟨_, rfl⟩
  have eq1 : z1 / 256 = q1 := by have := hq1.out; omega
  have eq2 : z1 % 256 = q2 := by have := hq2.out; omega
  have bz : 0 ≤ z1 ∧ z1 ≤ 65535 := by omega
  have dz : decide ((65535 : Int) < z1) = false := by simp; omega
  clear hzl hsl hdl hz hq1 hq2
  clear G0 G1 G2 G7 h1 h2 h5 Y hs epb M hk ehops enext ealert eis eoff emore eid h3 G3 G4
  go_enter Try.func12, Try.ntmps12
  go_wp2_with (first
    | (at_builtin; refine wpList_append_run rfl (.tmp 48) (.tmp 50) rfl rfl rfl H1.out ?_)
    | (at_builtin; refine wpList_append_run rfl (.tmp 52) (.tmp 54) rfl rfl rfl H2.out ?_)
    | (at_builtin; refine wpList_append_run rfl (.tmp 58) (.tmp 60) rfl rfl rfl H3.out ?_)
    | (at_builtin; refine wpList_append_run rfl (.tmp 100) (.tmp 102) rfl rfl rfl H5.out ?_))
  refine bodyPost_ret (results_tmp2 rfl _ _ _) rfl ?_
  exact ⟨_, rfl, GG.out⟩

set_option linter.unusedSimpArgs false in
set_option maxRecDepth 100000 in
set_option maxHeartbeats 4000000 in
theorem refPut_ain (s d : List Int) (hops next id off : Int) (A : Option Addr) (n c : Nat) (zs : List Int) (w : World) (hsl : s.length = 16) (hdl : d.length = 16) (bi : 0 ≤ id ∧ id < 4294967296) (bo : 0 ≤ off ∧ off ≤ 8191) (more : Bool) (hmo : more = false) (hs : Slc w (.slice A n c) zs) (hz : (n : Int) + 16 ≤ 65535) :
    Calls Try.prog 12 #[pv ⟨s, d, hops, true, ⟨true, id, off, more⟩, next⟩ (.slice A n c)] w fun e w' => ∃ v, e = .returned (.tuple #[v, .int .i64 0]) ∧ Gives w (pb ⟨s, d, hops, true, ⟨true, id, off, more⟩, next⟩ zs) (.returned v) w' := by
  have hzl : zs.length = n := (slc_of hs).1
  obtain ⟨k, hk⟩ : ∃ k : Pk, k = ⟨s, d, hops, true, ⟨true, id, off, more⟩, next⟩ := ⟨_, rfl⟩
  rw [← hk]
  have ehops : k.hops = hops := by rw [hk]
  have enext : k.next = next := by rw [hk]
  have ealert : k.alert = true := by rw [hk]
  have eis : k.frag.is = true := by rw [hk]
  have eoff : k.frag.off = off := by rw [hk]
  have eid : k.frag.id = id := by rw [hk]
  have emore : k.frag.more = false := by rw [hk, hmo]
  have M : Ends k := by rw [hk]; exact ⟨hsl, hdl⟩
  obtain ⟨q1, hq1⟩ : ∃ q, ((n : Int) + 16) / 256 = q := ⟨_, rfl⟩
  obtain ⟨q2, hq2⟩ : ∃ q, ((n : Int) + 16) % 256 = q := ⟨_, rfl⟩
  obtain ⟨q3, hq3⟩ : ∃ q, (8 * off + 0) / 256 = q := ⟨_, rfl⟩
  obtain ⟨q4, hq4⟩ : ∃ q, (8 * off + 0) % 256 = q := ⟨_, rfl⟩
  obtain ⟨i1, hi1⟩ : ∃ q, id / 16777216 = q := ⟨_, rfl⟩
  obtain ⟨i2, hi2⟩ : ∃ q, id / 65536 % 256 = q := ⟨_, rfl⟩
  obtain ⟨i3, hi3⟩ : ∃ q, id / 256 % 256 = q := ⟨_, rfl⟩
  obtain ⟨i4, hi4⟩ : ∃ q, id % 256 = q := ⟨_, rfl⟩
  have epb : pb k zs = [96, 0, 0, 0, q1, q2, 0, hops] ++ k.s ++ k.d ++ [44, 0, 5, 2, 0, 0, 1, 0] ++ [next, 0, q3, q4, i1, i2, i3, i4] ++ zs := by
    rw [hk]
    simp only [pb, headP, alertP, partP, sizeP, firstP, behindP, wordP, hzl, if_true, if_false, Bool.false_eq_true, hmo]
    have e4 : be id 4 = [i1, i2, i3, i4] := by
      rw [← hi1, ← hi2, ← hi3, ← hi4]
      simp only [be]
      simp
      omega
    rw [e4]
    simp [← hq1, ← hq2, ← hq3, ← hq4, Int.add_assoc]
  have Y := (Lay.begin w).new (pc k (.slice A n c)) 30 (g := w.heap.size) rfl
  have G0 := Grow.lit Y [96, 0, 0, 0, q1, q2, 0, hops] 8 rfl (by omega)
  obtain ⟨v1, w1, h1, G1⟩ := G0.append (slc_part (n := 16) (c := 16) (G0.lay.at mem0) pc_src M.s (by omega)) (by simp [M.s]) 28
  obtain ⟨v2, w2, h2, G2⟩ := G1.append (slc_part (n := 16) (c := 16) (G1.lay.at mem0) (pc_dst M) M.d (by omega)) (by simp [M.s, M.d]) 28
  have y0 := Y.look mem0 (pc_hops M)
  have y1 := Y.look mem0 (pc_next M)
  have y2 := Y.look mem0 (pc_body M)
  have y3 := Y.look mem0 (pc_alert M)
  have y4 := Y.range mem0 (pc_frag M) 0 _ rfl
  have y5 := Y.range mem0 (pc_frag M) 2 _ rfl
  have c0 := G2.lay.look mem0 (pc_alert M)
  simp only [ealert] at c0
  have G3 := G2.keep (below_new w2 (.cells (bv [44, 0, 5, 2, 0, 0, 1, 0]).toArray 5))
  obtain ⟨v3, w3, h3, G4⟩ := G3.append (slc_part (n := 8) (c := 8) (row_new (w := w2) (g := w2.heap.size) (t := 5) (cs := (bv [44, 0, 5, 2, 0, 0, 1, 0]).toArray) rfl) (part_all _) rfl (by omega)) (by simp [M.s, M.d]) 28
  replace h3 : (Builtin.append_ #[28, 28] 28 #[v2, .slice (some ⟨w2.heap.size, 0, none⟩) 8 8]).run Try.prog (w2.alloc (.cells #[.int .u8 44, .int .u8 0, .int .u8 5, .int .u8 2, .int .u8 0, .int .u8 0, .int .u8 1, .int .u8 0] 5)) = .ok v3 w3 := h3
  have c1 := G4.lay.range mem0 (pc_frag M) 0 _ rfl
  simp only [eis] at c1
  have c2 := G4.lay.range mem0 (pc_frag M) 2 _ rfl
  simp only [eoff] at c2
  have c3 := G4.lay.range mem0 (pc_frag M) 3 _ rfl
  simp only [emore] at c3
  have c4 := G4.lay.range mem0 (pc_frag M) 1 _ rfl
  simp only [eid] at c4
  have c5 := G4.lay.look mem0 (pc_next M)
  simp only [enext] at c5
  have G5 := G4.keep (below_new w3 (.cells (bv [next, 0, q3, q4, i1, i2, i3, i4]).toArray 5))
  obtain ⟨v4, w4, h4, G6⟩ := G5.append (slc_part (n := 8) (c := 8) (row_new (w := w3) (g := w3.heap.size) (t := 5) (cs := (bv [next, 0, q3, q4, i1, i2, i3, i4]).toArray) rfl) (part_all _) rfl (by omega)) (by simp [M.s, M.d]) 28
  replace h4 : (Builtin.append_ #[28, 28] 28 #[v3, .slice (some ⟨w3.heap.size, 0, none⟩) 8 8]).run Try.prog (w3.alloc (.cells #[.int .u8 next, .int .u8 0, .int .u8 q3, .int .u8 q4, .int .u8 i1, .int .u8 i2, .int .u8 i3, .int .u8 i4] 5)) = .ok v4 w4 := h4
  have c6 := G6.lay.look mem0 (pc_body M)
  obtain ⟨v5, w5, h5, G7⟩ := G6.append (hs.keep G6.lay.below) (by simp [M.s, M.d, hzl]; omega) 28
  replace h1 : (Builtin.append_ #[28, 28] 28 #[.slice (some ⟨w.heap.size + 1, 0, none⟩) 8 8, .slice (some ⟨w.heap.size, 0, none⟩) 16 16]).run Try.prog ((w.alloc (.cells (pc k (.slice A n c)).toArray 30)).alloc (.cells #[.int .u8 96, .int .u8 0, .int .u8 0, .int .u8 0, .int .u8 q1, .int .u8 q2, .int .u8 0, .int .u8 hops] 5)) = .ok v1 w1 := by
    have e : (w.alloc (.cells (pc k (.slice A n c)).toArray 30)).heap.size = w.heap.size + 1 := by simp
    rw [e] at h1
    exact h1
  have GG := veil G7.gives
  rw [← epb] at GG
  have H1 := veil h1
  have H2 := veil h2
  have H3 := veil h3
  have H4 := veil h4
  have H5 := veil h5
  simp only [ehops] at y0
  simp only [enext] at y1
  simp only [ealert] at y3
  simp only [eis] at y4
  simp only [eoff] at y5
  have b16 : (n : Int) ≤ 65535 := by omega
  replace hq1 := veil hq1
  replace hq2 := veil hq2
  obtain ⟨z1, ez1⟩ : ∃ z, (n : Int) + 8 = z := ⟨_, rfl⟩
  obtain ⟨z2, ez2⟩ : ∃ z, z1 + 8 = z := ⟨_, rfl⟩
  have eq1 : z2 / 256 = q1 := by have := hq1.out; omega
  have eq2 : z2 % 256 = q2 := by have := hq2.out; omega
  have bz : 0 ≤ z2 ∧ z2 ≤ 65535 := by omega
  have dz : decide ((65535 : Int) < z2) = false := by simp; omega
  replace hq3 := veil hq3
  replace hq4 := veil hq4
  obtain ⟨y, ey⟩ : ∃ y, 8 * off = y := ⟨_, rfl⟩
  have eq3 : y / 256 = q3 := by have := hq3.out; omega
  have eq4 : y % 256 = q4 := by have := hq4.out; omega
  have by0 : 0 ≤ y ∧ y ≤ 65528 := by omega
  have do0 : decide ((8191 : Int) < off) = false := by simp; omega
  clear hzl hsl hdl hz hq1 hq2 hq3 hq4 hmo
  clear G0 G1 G2 G7 h1 h2 h5 Y hs epb M hk ehops enext ealert eis eoff emore eid h3 G3 G4 h4 G5 G6
  go_enter Try.func12, Try.ntmps12
  go_wp2_with (first
    | (at_builtin; refine wpList_append_run rfl (.tmp 48) (.tmp 50) rfl rfl rfl H1.out ?_)
    | (at_builtin; refine wpList_append_run rfl (.tmp 52) (.tmp 54) rfl rfl rfl H2.out ?_)
    | (at_builtin; refine wpList_append_run rfl (.tmp 58) (.tmp 60) rfl rfl rfl H3.out ?_)
    | (at_builtin; refine wpList_append_run rfl (.tmp 78) (.tmp 98) rfl rfl rfl H4.out ?_)
    | (at_builtin; refine wpList_append_run rfl (.tmp 100) (.tmp 102) rfl rfl rfl H5.out ?_))
  refine bodyPost_ret (results_tmp2 rfl _ _ _) rfl ?_
  exact ⟨_, rfl, GG.out⟩

set_option linter.unusedSimpArgs false in
set_option maxRecDepth 100000 in
set_option maxHeartbeats 4000000 in
theorem refPut_aim (s d : List Int) (hops next id off : Int) (A : Option Addr) (n c : Nat) (zs : List Int) (w : World) (hsl : s.length = 16) (hdl : d.length = 16) (bi : 0 ≤ id ∧ id < 4294967296) (bo : 0 ≤ off ∧ off ≤ 8191) (more : Bool) (hmo : more = true) (hs : Slc w (.slice A n c) zs) (hz : (n : Int) + 16 ≤ 65535) :
    Calls Try.prog 12 #[pv ⟨s, d, hops, true, ⟨true, id, off, more⟩, next⟩ (.slice A n c)] w fun e w' => ∃ v, e = .returned (.tuple #[v, .int .i64 0]) ∧ Gives w (pb ⟨s, d, hops, true, ⟨true, id, off, more⟩, next⟩ zs) (.returned v) w' := by
  have hzl : zs.length = n := (slc_of hs).1
  obtain ⟨k, hk⟩ : ∃ k : Pk, k = ⟨s, d, hops, true, ⟨true, id, off, more⟩, next⟩ := ⟨_, rfl⟩
  rw [← hk]
  have ehops : k.hops = hops := by rw [hk]
  have enext : k.next = next := by rw [hk]
  have ealert : k.alert = true := by rw [hk]
  have eis : k.frag.is = true := by rw [hk]
  have eoff : k.frag.off = off := by rw [hk]
  have eid : k.frag.id = id := by rw [hk]
  have emore : k.frag.more = true := by rw [hk, hmo]
  have M : Ends k := by rw [hk]; exact ⟨hsl, hdl⟩
  obtain ⟨q1, hq1⟩ : ∃ q, ((n : Int) + 16) / 256 = q := ⟨_, rfl⟩
  obtain ⟨q2, hq2⟩ : ∃ q, ((n : Int) + 16) % 256 = q := ⟨_, rfl⟩
  obtain ⟨q3, hq3⟩ : ∃ q, (8 * off + 1) / 256 = q := ⟨_, rfl⟩
  obtain ⟨q4, hq4⟩ : ∃ q, (8 * off + 1) % 256 = q := ⟨_, rfl⟩
  obtain ⟨i1, hi1⟩ : ∃ q, id / 16777216 = q := ⟨_, rfl⟩
  obtain ⟨i2, hi2⟩ : ∃ q, id / 65536 % 256 = q := ⟨_, rfl⟩
  obtain ⟨i3, hi3⟩ : ∃ q, id / 256 % 256 = q := ⟨_, rfl⟩
  obtain ⟨i4, hi4⟩ : ∃ q, id % 256 = q := ⟨_, rfl⟩
  have epb : pb k zs = [96, 0, 0, 0, q1, q2, 0, hops] ++ k.s ++ k.d ++ [44, 0, 5, 2, 0, 0, 1, 0] ++ [next, 0, q3, q4, i1, i2, i3, i4] ++ zs := by
    rw [hk]
    simp only [pb, headP, alertP, partP, sizeP, firstP, behindP, wordP, hzl, if_true, if_false, Bool.false_eq_true, hmo]
    have e4 : be id 4 = [i1, i2, i3, i4] := by
      rw [← hi1, ← hi2, ← hi3, ← hi4]
      simp only [be]
      simp
      omega
    rw [e4]
    simp [← hq1, ← hq2, ← hq3, ← hq4, Int.add_assoc]
  have Y := (Lay.begin w).new (pc k (.slice A n c)) 30 (g := w.heap.size) rfl
  have G0 := Grow.lit Y [96, 0, 0, 0, q1, q2, 0, hops] 8 rfl (by omega)
  obtain ⟨v1, w1, h1, G1⟩ := G0.append (slc_part (n := 16) (c := 16) (G0.lay.at mem0) pc_src M.s (by omega)) (by simp [M.s]) 28
  obtain ⟨v2, w2, h2, G2⟩ := G1.append (slc_part (n := 16) (c := 16) (G1.lay.at mem0) (pc_dst M) M.d (by omega)) (by simp [M.s, M.d]) 28
  have y0 := Y.look mem0 (pc_hops M)
  have y1 := Y.look mem0 (pc_next M)
  have y2 := Y.look mem0 (pc_body M)
  have y3 := Y.look mem0 (pc_alert M)
  have y4 := Y.range mem0 (pc_frag M) 0 _ rfl
  have y5 := Y.range mem0 (pc_frag M) 2 _ rfl
  have c0 := G2.lay.look mem0 (pc_alert M)
  simp only [ealert] at c0
  have G3 := G2.keep (below_new w2 (.cells (bv [44, 0, 5, 2, 0, 0, 1, 0]).toArray 5))
  obtain ⟨v3, w3, h3, G4⟩ := G3.append (slc_part (n := 8) (c := 8) (row_new (w := w2) (g := w2.heap.size) (t := 5) (cs := (bv [44, 0, 5, 2, 0, 0, 1, 0]).toArray) rfl) (part_all _) rfl (by omega)) (by simp [M.s, M.d]) 28
  replace h3 : (Builtin.append_ #[28, 28] 28 #[v2, .slice (some ⟨w2.heap.size, 0, none⟩) 8 8]).run Try.prog (w2.alloc (.cells #[.int .u8 44, .int .u8 0, .int .u8 5, .int .u8 2, .int .u8 0, .int .u8 0, .int .u8 1, .int .u8 0] 5)) = .ok v3 w3 := h3
  have c1 := G4.lay.range mem0 (pc_frag M) 0 _ rfl
  simp only [eis] at c1
  have c2 := G4.lay.range mem0 (pc_frag M) 2 _ rfl
  simp only [eoff] at c2
  have c3 := G4.lay.range mem0 (pc_frag M) 3 _ rfl
  simp only [emore] at c3
  have c4 := G4.lay.range mem0 (pc_frag M) 1 _ rfl
  simp only [eid] at c4
  have c5 := G4.lay.look mem0 (pc_next M)
  simp only [enext] at c5
  have G5 := G4.keep (below_new w3 (.cells (bv [next, 0, q3, q4, i1, i2, i3, i4]).toArray 5))
  obtain ⟨v4, w4, h4, G6⟩ := G5.append (slc_part (n := 8) (c := 8) (row_new (w := w3) (g := w3.heap.size) (t := 5) (cs := (bv [next, 0, q3, q4, i1, i2, i3, i4]).toArray) rfl) (part_all _) rfl (by omega)) (by simp [M.s, M.d]) 28
  replace h4 : (Builtin.append_ #[28, 28] 28 #[v3, .slice (some ⟨w3.heap.size, 0, none⟩) 8 8]).run Try.prog (w3.alloc (.cells #[.int .u8 next, .int .u8 0, .int .u8 q3, .int .u8 q4, .int .u8 i1, .int .u8 i2, .int .u8 i3, .int .u8 i4] 5)) = .ok v4 w4 := h4
  have c6 := G6.lay.look mem0 (pc_body M)
  obtain ⟨v5, w5, h5, G7⟩ := G6.append (hs.keep G6.lay.below) (by simp [M.s, M.d, hzl]; omega) 28
  replace h1 : (Builtin.append_ #[28, 28] 28 #[.slice (some ⟨w.heap.size + 1, 0, none⟩) 8 8, .slice (some ⟨w.heap.size, 0, none⟩) 16 16]).run Try.prog ((w.alloc (.cells (pc k (.slice A n c)).toArray 30)).alloc (.cells #[.int .u8 96, .int .u8 0, .int .u8 0, .int .u8 0, .int .u8 q1, .int .u8 q2, .int .u8 0, .int .u8 hops] 5)) = .ok v1 w1 := by
    have e : (w.alloc (.cells (pc k (.slice A n c)).toArray 30)).heap.size = w.heap.size + 1 := by simp
    rw [e] at h1
    exact h1
  have GG := veil G7.gives
  rw [← epb] at GG
  have H1 := veil h1
  have H2 := veil h2
  have H3 := veil h3
  have H4 := veil h4
  have H5 := veil h5
  simp only [ehops] at y0
  simp only [enext] at y1
  simp only [ealert] at y3
  simp only [eis] at y4
  simp only [eoff] at y5
  have b16 : (n : Int) ≤ 65535 := by omega
  replace hq1 := veil hq1
  replace hq2 := veil hq2
  obtain ⟨z1, ez1⟩ : ∃ z, (n : Int) + 8 = z := ⟨_, rfl⟩
  obtain ⟨z2, ez2⟩ : ∃ z, z1 + 8 = z := ⟨_, rfl⟩
  have eq1 : z2 / 256 = q1 := by have := hq1.out; omega
  have eq2 : z2 % 256 = q2 := by have := hq2.out; omega
  have bz : 0 ≤ z2 ∧ z2 ≤ 65535 := by omega
  have dz : decide ((65535 : Int) < z2) = false := by simp; omega
  replace hq3 := veil hq3
  replace hq4 := veil hq4
  obtain ⟨y, ey⟩ : ∃ y, 8 * off = y := ⟨_, rfl⟩
  obtain ⟨y1, ey1⟩ : ∃ z, y + 1 = z := ⟨_, rfl⟩
  have eq3 : y1 / 256 = q3 := by have := hq3.out; omega
  have eq4 : y1 % 256 = q4 := by have := hq4.out; omega
  have by1 : 0 ≤ y1 ∧ y1 ≤ 65535 := by omega
  have by0 : 0 ≤ y ∧ y ≤ 65528 := by omega
  have do0 : decide ((8191 : Int) < off) = false := by simp; omega
  clear hzl hsl hdl hz hq1 hq2 hq3 hq4 hmo
  clear G0 G1 G2 G7 h1 h2 h5 Y hs epb M hk ehops enext ealert eis eoff emore eid h3 G3 G4 h4 G5 G6
  go_enter Try.func12, Try.ntmps12
  go_wp2_with (first
    | (at_builtin; refine wpList_append_run rfl (.tmp 48) (.tmp 50) rfl rfl rfl H1.out ?_)
    | (at_builtin; refine wpList_append_run rfl (.tmp 52) (.tmp 54) rfl rfl rfl H2.out ?_)
    | (at_builtin; refine wpList_append_run rfl (.tmp 58) (.tmp 60) rfl rfl rfl H3.out ?_)
    | (at_builtin; refine wpList_append_run rfl (.tmp 78) (.tmp 98) rfl rfl rfl H4.out ?_)
    | (at_builtin; refine wpList_append_run rfl (.tmp 100) (.tmp 102) rfl rfl rfl H5.out ?_))
  refine bodyPost_ret (results_tmp2 rfl _ _ _) rfl ?_
  exact ⟨_, rfl, GG.out⟩


end Go.Proofs.Ytfkjfdmepeahnaa.Hd
