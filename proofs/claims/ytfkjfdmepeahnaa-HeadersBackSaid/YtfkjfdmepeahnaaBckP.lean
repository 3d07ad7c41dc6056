/-
  A packet's bytes, read again, in plain words: the packet, whatever stands behind them; cut anywhere they are too short.
  Conditions: addresses of sixteen bytes; numbers that their kinds hold; no header's number as its next.
-/
import Derived.Test.YtfkjfdmepeahnaaPktP
import Derived.Test.YtfkjfdmepeahnaaGetC
namespace Go.Proofs.Ytfkjfdmepeahnaa.Hd
set_option maxRecDepth 100000
open Go.RowKit

/-- all of a datagram as a part is no part -/
def backK (k : Pk) : Pk := if k.frag.is = true ∧ k.frag.off = 0 ∧ k.frag.more = false then { k with frag := {} } else k
/-- a header's number -/
def Numb (n : Int) : Prop := n = 0 ∨ n = 43 ∨ n = 44 ∨ n = 59 ∨ n = 60
/-- a packet that is got as it is put -/
structure Backs (k : Pk) (n : Nat) : Prop where
  m : Ends k
  v : Holds k
  next : ¬ Numb k.next
  none : k.frag.is = false → k.frag = {}
  ok : OkP k n

theorem walk_end {next : Int} (h : ¬ Numb next) (zs : List Int) (p told : Int) (first mc al : Bool) : walk next zs p told first mc al = { last := next, rest := zs, alert := al } := by
  unfold Numb at h
  rw [walk, if_neg (by omega), if_neg (by omega), if_neg (by omega), if_neg (by omega)]
theorem opts_alert (b : Int) (mc : Bool) : opts [b, 0, 5, 2, 0, 0, 1, 0] 40 true mc 2 false = { alert := true } := by
  rw [opts]
  simp
  rw [opts]
  simp
  rw [opts]
  simp
theorem walk_part {k : Pk} {n : Nat} (B : Backs k n) (zs : List Int) (p told : Int) (first mc al : Bool) : walk (behindP k) (partP k ++ zs) p told first mc al = { last := k.next, rest := zs, alert := al, frag := (backK k).frag } := by
  unfold behindP partP backK
  by_cases hi : k.frag.is = true
  · have hv := B.v.id
    have ho := B.v.off
    have e1 : ([k.next, 0, wordP k / 256, wordP k % 256] ++ be k.frag.id 4 ++ zs).drop 8 = zs := by
      rw [List.drop_append_of_le_length (by simp [be_length]), List.drop_of_length_le (by simp [be_length]), List.nil_append]
    have e2 : fragOf ([k.next, 0, wordP k / 256, wordP k % 256] ++ be k.frag.id 4 ++ zs) = k.frag := by
      have i4 : (([k.next, 0, wordP k / 256, wordP k % 256] ++ be k.frag.id 4 ++ zs).drop 4).take 4 = be k.frag.id 4 := by
        rw [List.append_assoc, List.drop_append_of_le_length (by simp), List.drop_of_length_le (by simp), List.nil_append, List.take_left' (be_length _ _)]
      have i2 : (([k.next, 0, wordP k / 256, wordP k % 256] ++ be k.frag.id 4 ++ zs).drop 2).take 2 = [wordP k / 256, wordP k % 256] := by simp
      unfold fragOf
      rw [i4, i2, num_be _ hv.1 4]
      have hn : num [wordP k / 256, wordP k % 256] = wordP k := by
        simp only [num, List.foldl_cons, List.foldl_nil]
        omega
      rw [hn, Int.emod_eq_of_lt hv.1 (by have := hv.2; rw [show (256 : Int) ^ 4 = 4294967296 from by decide]; exact this)]
      obtain ⟨s, d, hops, al, ⟨is, id, off, more⟩, nx⟩ := k
      simp only at hi
      subst hi
      unfold wordP
      simp only
      congr 1
      · split <;> omega
      · cases more <;> simp <;> omega
    rw [if_pos hi, if_pos hi]
    rw [walk, if_neg (by decide), if_neg (by decide), if_pos rfl, if_neg (by simp [be_length]), e1, e2]
    have e0 : ([k.next, 0, wordP k / 256, wordP k % 256] ++ be k.frag.id 4 ++ zs).getD 0 0 = k.next := by simp
    rw [e0]
    by_cases hw : k.frag.off = 0 ∧ k.frag.more = false
    · rw [if_pos hw, if_pos ⟨hi, hw⟩, walk_end B.next]
    · rw [if_neg hw, if_neg (fun h => hw h.2)]
  · have hf := B.none (by simpa using hi)
    rw [if_neg hi, if_neg hi, if_neg (fun h => hi h.1), List.nil_append, walk_end B.next, hf]
theorem chain_pb {k : Pk} {n : Nat} (B : Backs k n) (zs : List Int) (mc : Bool) : chain (firstP k) (alertP k ++ (partP k ++ zs)) 40 mc = { last := k.next, rest := zs, alert := k.alert, frag := (backK k).frag } := by
  unfold chain firstP alertP
  by_cases ha : k.alert = true
  · rw [if_pos ha, if_pos ha]
    have eh : hdr ([behindP k, 0, 5, 2, 0, 0, 1, 0] ++ (partP k ++ zs)) 2 = 8 := by
      unfold hdr
      rw [if_neg (by simp)]
      simp
    have et : ([behindP k, 0, 5, 2, 0, 0, 1, 0] ++ (partP k ++ zs)).take 8 = [behindP k, 0, 5, 2, 0, 0, 1, 0] := List.take_left' rfl
    have ed : ([behindP k, 0, 5, 2, 0, 0, 1, 0] ++ (partP k ++ zs)).drop 8 = partP k ++ zs := List.drop_left' rfl
    rw [walk, if_pos (.inl rfl), if_neg (by simp), dif_neg (by rw [eh]; decide), eh]
    simp only [et, ed, decide_true, opts_alert]
    rw [if_neg (by decide), show ([behindP k, 0, 5, 2, 0, 0, 1, 0] ++ (partP k ++ zs)).getD 0 0 = behindP k by simp, walk_part B, ha]
    rfl
  · rw [if_neg ha, if_neg ha, List.nil_append, walk_part B]
    simp at ha
    rw [ha]

/-- the fixed header -/
def fixP (k : Pk) (n : Nat) : List Int := headP k n ++ (k.s ++ k.d)
theorem fix_len {k : Pk} (M : Ends k) (n : Nat) : (fixP k n).length = 40 := by simp [fixP, headP, M.s, M.d]
theorem size_len (k : Pk) (zs : List Int) : sizeP k zs.length = ((alertP k ++ (partP k ++ zs)).length : Nat) := by
  unfold sizeP alertP partP
  simp only [List.length_append]
  split <;> split <;> simp [be_length] <;> omega
theorem pb_fix (k : Pk) (zs : List Int) : pb k zs = fixP k zs.length ++ (alertP k ++ (partP k ++ zs)) := by simp [pb, fixP]
theorem pb_len (k : Pk) (M : Ends k) (zs : List Int) : (pb k zs).length = 40 + (alertP k ++ (partP k ++ zs)).length := by rw [pb_fix, List.length_append, fix_len M]

/-- what the first forty bytes tell -/
theorem fix_tells {k : Pk} {n : Nat} (M : Ends k) {P : List Int} (h : P.take 40 = fixP k n) (_h0 : 0 ≤ sizeP k n) :
    P.getD 0 0 = 96 ∧ P.getD 6 0 = firstP k ∧ P.getD 24 0 = k.d.getD 0 0 ∧ manyB P = (sizeP k n).toNat ∧ baseK P = { s := k.s, d := k.d, hops := k.hops } := by
  have g : ∀ i, i < 40 → P.getD i 0 = (fixP k n).getD i 0 := fun i hi => by
    rw [← h]
    simp [List.getD, hi]
  have d : ∀ a b, a + b ≤ 40 → (P.drop a).take b = ((fixP k n).drop a).take b := fun a b hab => by
    rw [← h, List.drop_take, List.take_take, Nat.min_eq_left (by omega)]
  have e8 : (fixP k n).drop 8 = k.s ++ k.d := by simp [fixP, headP]
  have e24 : (fixP k n).drop 24 = k.d := by
    rw [show 24 = 8 + 16 from rfl, ← List.drop_drop, e8, List.drop_left' M.s]
  refine ⟨?_, ?_, ?_, ?_, ?_⟩
  · rw [g 0 (by omega)]; rfl
  · rw [g 6 (by omega)]; rfl
  · rw [g 24 (by omega)]
    rw [← e24]
    simp [List.getD]
  · unfold manyB
    rw [d 4 2 (by omega)]
    rw [show ((fixP k n).drop 4).take 2 = [sizeP k n / 256, sizeP k n % 256] from rfl]
    simp only [num, List.foldl_cons, List.foldl_nil]
    congr 1
    omega
  · unfold baseK
    rw [d 8 16 (by omega), d 24 16 (by omega), e8, e24, List.take_left' M.s, List.take_of_length_le (by rw [M.d]; omega), g 7 (by omega)]
    rfl

theorem get_whole {k : Pk} {zs : List Int} (B : Backs k zs.length) (ys : List Int) : getB (pb k zs ++ ys) = (backK k, zs, 0, 0, 0) := by
  have ht : (pb k zs ++ ys).take 40 = fixP k zs.length := by
    rw [pb_fix, List.append_assoc, List.take_left' (fix_len B.m _)]
  have h0 : 0 ≤ sizeP k zs.length := by rw [size_len]; omega
  obtain ⟨a0, a6, a24, am, ab⟩ := fix_tells B.m ht h0
  have hl : (pb k zs ++ ys).length = 40 + (alertP k ++ (partP k ++ zs)).length + ys.length := by rw [List.length_append, pb_len k B.m]
  have hm : manyB (pb k zs ++ ys) = (alertP k ++ (partP k ++ zs)).length := by rw [am, size_len, Int.toNat_natCast]
  have hd : ((pb k zs ++ ys).drop 40).take (manyB (pb k zs ++ ys)) = alertP k ++ (partP k ++ zs) := by
    rw [hm, pb_fix, List.append_assoc, List.drop_left' (fix_len B.m _), List.take_left' rfl]
  have hT : tellB (pb k zs ++ ys) = { last := k.next, rest := zs, alert := k.alert, frag := (backK k).frag } := by
    unfold tellB
    rw [hd, a6, chain_pb B]
  have hK : gotK (pb k zs ++ ys) = backK k := by
    unfold gotK
    rw [hT, ab]
    unfold backK
    by_cases h : k.frag.is = true ∧ k.frag.off = 0 ∧ k.frag.more = false
    · simp only [if_pos h]
    · simp only [if_neg h]
  unfold getB
  rw [if_neg (by omega), if_neg (by rw [a0]; decide), if_neg (by rw [hm]; omega), if_pos (by rw [hT]; exact .inl rfl), hK, hT]
theorem get_cut {k : Pk} {zs : List Int} (B : Backs k zs.length) {m : Nat} (hm : m < (pb k zs).length) : getB ((pb k zs).take m) = (noPk, [], 0, 0, 5) := by
  have hl : ((pb k zs).take m).length = m := by rw [List.length_take]; omega
  unfold getB
  by_cases h : m < 40
  · rw [if_pos (by omega)]
  have ht : ((pb k zs).take m).take 40 = fixP k zs.length := by
    rw [List.take_take, Nat.min_eq_left (by omega), pb_fix, List.take_left' (fix_len B.m _)]
  have h0 : 0 ≤ sizeP k zs.length := by rw [size_len]; omega
  obtain ⟨a0, _, _, am, _⟩ := fix_tells B.m ht h0
  have hp := pb_len k B.m zs
  have hs := size_len k zs
  rw [if_neg (by omega), if_neg (by rw [a0]; decide), if_pos (by rw [am, hl]; omega)]
theorem back_ends {k : Pk} (M : Ends k) : Ends (backK k) := by
  unfold backK
  split
  · exact ⟨M.s, M.d⟩
  · exact M

theorem back_len {k : Pk} {n : Nat} (B : Backs k n) (zs : List Int) : zs.length + 40 ≤ (pb k zs).length := by
  rw [pb_len k B.m]
  simp only [List.length_append]
  omega
theorem pb_byt {k : Pk} {zs : List Int} (B : Backs k zs.length) (hs : Byt k.s) (hd : Byt k.d) (hz : Byt zs) : Byt (pb k zs) := by
  obtain ⟨h1, h2⟩ := B.ok
  have h0 : 0 ≤ sizeP k zs.length := by rw [size_len]; omega
  have v1 := B.v.hops
  have v2 := B.v.next
  have v3 := B.v.off
  have hb : 0 ≤ behindP k ∧ behindP k ≤ 255 := by unfold behindP; split <;> omega
  have hf : 0 ≤ firstP k ∧ firstP k ≤ 255 := by unfold firstP; split <;> omega
  have hh : Byt (headP k zs.length) := fun z hm => by
    simp only [headP, List.mem_cons, List.not_mem_nil, or_false] at hm
    omega
  have ha : Byt (alertP k) := fun z hm => by
    unfold alertP at hm
    split at hm
    · simp only [List.mem_cons, List.not_mem_nil, or_false] at hm
      omega
    · simp at hm
  have hp : Byt (partP k) := fun z hm => by
    unfold partP at hm
    split at hm
    · rename_i hi
      have h3 := h2 hi
      have hw : 0 ≤ wordP k ∧ wordP k ≤ 65535 := by unfold wordP; split <;> omega
      rcases List.mem_append.1 hm with hm | hm
      · simp only [List.mem_cons, List.not_mem_nil, or_false] at hm
        omega
      · exact be_byt _ _ z hm
    · simp at hm
  intro z hm
  unfold pb at hm
  simp only [List.mem_append] at hm
  rcases hm with hm | hm | hm | hm | hm | hm
  · exact hh z hm
  · exact hs z hm
  · exact hd z hm
  · exact ha z hm
  · exact hp z hm
  · exact hz z hm

end Go.Proofs.Ytfkjfdmepeahnaa.Hd
