/- GrantLess: whatever it is called with, it hands back true. -/
import Derived.Test.YtejhodjbgablaaaGu
set_option linter.unusedSimpArgs false
set_option linter.unusedVariables false
namespace Go.Proofs.Ytejhodjbgablaaa
open Go.RowKit
set_option maxRecDepth 100000 in
set_option maxHeartbeats 16000000 in
theorem less_law (c : Cr) (A : Option Addr) (n : Nat) (x : At) (p : ALie) (dir : Bool) (q r : Nat) (hq : q < 256) (hr : r < 256) (w : World) (hc : CLies w c A) (h : ALies w x p) (hs : ABg x) :
    Calls Try.prog 4 #[c.v A n, x.v p, .bool dir, .int .u8 (q : Nat), .int .u8 (r : Nat)] w fun e w' => e = .returned (.bool true) ∧ Below w.heap.size w w' := by
  obtain ⟨V, hV⟩ : ∃ V, V = (w.alloc (.cells (c.c A n) 25)).alloc (.cells (x.c p) 31) := ⟨_, rfl⟩
  have S0 : Hid (Pb w V c A n x p) := Lib.hid (by rw [hV]; exact Pb.start hc h)
  have HBG := Lib.hid hs
  clear hc h hs
  go_enter Try.func4, Try.ntmps4
  go_upto_region 1 with (fail)
  rw [← hV]
  clear hV
  go_wp2_with (first
    | (refine wpList_load_part rfl 25 (.tmp 5) rfl w.heap.size 0 rfl (c.c A n).toList _ S0.out.cb.all Try.underlying25 rfl cred_size (c.v A n) rfl ?_)
    | (refine wpList_load_part rfl 31 (.tmp 6) rfl (w.heap.size + 1) 0 rfl (x.c p).toList _ S0.out.bt.bt0 Try.underlying31 rfl attr_size (x.v p) rfl ?_))
  refine (glarge_calls c A n x p V S0.out.cl S0.out.al HBG.out).mono ?_
  rintro e w1 ⟨rfl, hb⟩
  have S1 := Lib.hid (S0.out.on hb)
  clear hb S0
  cases hlg : largeG c x
  case true =>
    clear hlg
    go_wp2_with (fail)
    refine (alive_calls _).mono ?_
    rintro e w9 ⟨rfl, hb⟩
    have S9 := Lib.hid (S1.out.on hb)
    clear hb
    go_wp2_with (fail)
    go_ret
    exact ⟨rfl, S9.out.be⟩
  case false =>
  obtain ⟨hs, hks, h60⟩ := largeG_no hlg
  have HS := Lib.hid hs
  have HK := Lib.hid hks
  have H60 := Lib.hid h60
  clear hs hks h60 hlg HBG
  obtain ⟨q2, hq2⟩ : ∃ m, q % 8 = m := ⟨_, rfl⟩
  obtain ⟨r2, hr2⟩ : ∃ m, r &&& q2 = m := ⟨_, rfl⟩
  have hq8 : q2 < 8 := by omega
  have hr8 : r2 < 256 := by rw [← hr2]; exact Nat.lt_of_le_of_lt Nat.and_le_left hr
  have e1 : (q : Int) % 8 = (q2 : Int) := by omega
  have e2 : bits .and .u8 (r : Int) (q2 : Int) = (r2 : Int) := by rw [and8 r q2 hr (by omega), hr2]
  have HR2 := Lib.hid hr2
  clear hq2 hr2
  go_wp2_with (first
    | (refine wpList_load_part rfl 25 (.tmp 5) rfl w.heap.size 0 rfl (c.c A n).toList _ S1.out.cb.all Try.underlying25 rfl cred_size (c.v A n) rfl ?_)
    | (refine wpList_load_part rfl 31 (.tmp 6) rfl (w.heap.size + 1) 0 rfl (x.c p).toList _ S1.out.bt.bt0 Try.underlying31 rfl attr_size (x.v p) rfl ?_))
  refine (may_calls c A n x p dir q2 w1 S1.out.cl S1.out.al HS.out (by omega)).mono ?_
  rintro e w2 ⟨rfl, hb⟩
  have S2 := Lib.hid (S1.out.on hb)
  clear hb S1
  have HLS : Hid (mayG c x dir q2 = true → mayG c x dir r2 = true) := Lib.hid (fun h => HR2.out ▸ may_less h)
  have HMO : Hid (mayG c x dir q2 = true → hasB (mostG c x dir) q2 = true) := Lib.hid (fun h => may_most h)
  have HM8 : Hid (mostG c x dir < 256) := Lib.hid (by
    unfold mostG validB
    cases hm : amayB x
    · rw [Bool.and_false]; simp
    · have := orL_lt 3 (off_lt (c := c) (dir := dir) hm)
      split <;> omega)
  clear HR2
  generalize mayG c x dir q2 = t at *
  cases t
  case false =>
    go_wp2_with (first
      | (refine wpList_load_part rfl 25 (.tmp 5) rfl w.heap.size 0 rfl (c.c A n).toList _ S2.out.cb.all Try.underlying25 rfl cred_size (c.v A n) rfl ?_)
      | (refine wpList_load_part rfl 31 (.tmp 6) rfl (w.heap.size + 1) 0 rfl (x.c p).toList _ S2.out.bt.bt0 Try.underlying31 rfl attr_size (x.v p) rfl ?_))
    refine (most_calls c A n x p dir w2 S2.out.cl S2.out.al HS.out).mono ?_
    rintro e w3 ⟨rfl, hb⟩
    have S3 := Lib.hid (S2.out.on hb)
    clear hb S2
    go_wp2_with (fail)
    refine (alive_calls _).mono ?_
    rintro e w9 ⟨rfl, hb⟩
    have S9 := Lib.hid (S3.out.on hb)
    clear hb
    go_wp2_with (fail)
    go_ret
    exact ⟨rfl, S9.out.be⟩
  case true =>
    have HLT := Lib.hid (HLS.out rfl)
    have HMT := Lib.hid (HMO.out rfl)
    clear HLS HMO
    go_wp2_with (first
      | (refine wpList_load_part rfl 25 (.tmp 5) rfl w.heap.size 0 rfl (c.c A n).toList _ S2.out.cb.all Try.underlying25 rfl cred_size (c.v A n) rfl ?_)
      | (refine wpList_load_part rfl 31 (.tmp 6) rfl (w.heap.size + 1) 0 rfl (x.c p).toList _ S2.out.bt.bt0 Try.underlying31 rfl attr_size (x.v p) rfl ?_))
    refine (may_calls c A n x p dir r2 w2 S2.out.cl S2.out.al HS.out hr8).mono ?_
    rintro e w3 ⟨rfl, hb⟩
    have S3 := Lib.hid (S2.out.on hb)
    clear hb S2
    rw [HLT.out]
    go_wp2_with (first
      | (refine wpList_load_part rfl 25 (.tmp 5) rfl w.heap.size 0 rfl (c.c A n).toList _ S3.out.cb.all Try.underlying25 rfl cred_size (c.v A n) rfl ?_)
      | (refine wpList_load_part rfl 31 (.tmp 6) rfl (w.heap.size + 1) 0 rfl (x.c p).toList _ S3.out.bt.bt0 Try.underlying31 rfl attr_size (x.v p) rfl ?_))
    refine (most_calls c A n x p dir w3 S3.out.cl S3.out.al HS.out).mono ?_
    rintro e w4 ⟨rfl, hb⟩
    have S4 := Lib.hid (S3.out.on hb)
    have h8 := has8 (mostG c x dir) q2 HM8.out (by omega)
    rw [HMT.out] at h8
    clear hb S3 HLT HMT
    generalize mostG c x dir = mg at *
    go_wp2_with (fail)
    refine (alive_calls _).mono ?_
    rintro e w9 ⟨rfl, hb⟩
    have S9 := Lib.hid (S4.out.on hb)
    clear hb
    go_wp2_with (fail)
    go_ret
    exact ⟨rfl, S9.out.be⟩
end Go.Proofs.Ytejhodjbgablaaa
