/- The document's own Turned, Take and Drop; the program's Drop. -/
import Derived.Test.YtaafchcpnceddaaDoorUb
set_option linter.unusedSimpArgs false
set_option linter.unusedVariables false
namespace Go.Proofs.YtaafchcpnceddaaDoor
open Go.RowKit WordMath
set_option maxRecDepth 100000 in
theorem rturned_calls (A B : Option Addr) (l m : List Nat) (c d : Nat) (w : World) (ha : Row w A l) (hb : Row w B m) (hlen : l.length ≤ 1048576) (hlen2 : m.length ≤ 1048576) :
    Calls Tryd.prog 17 #[.slice A l.length c, .slice B m.length d] w (GivesI (ni (turnedL l m)) w) := by
  obtain ⟨i0, hi0, hz0, hs0, hb0⟩ := info_parts i64_info
  have HI := Lib.hid hi0
  have HZ := Lib.hid hz0
  have HS := Lib.hid hs0
  have HB := Lib.hid hb0
  clear hi0 hz0 hs0 hb0
  have KV : Hid (turnTo l m (min l.length m.length) = ni (turnedL l m)) := rfl
  obtain ⟨M, hM⟩ : ∃ M, min l.length m.length = M := ⟨_, rfl⟩
  have hM2 : M ≤ l.length := by omega
  have hM3 : M ≤ m.length := by omega
  have hM4 : M = l.length ∨ (M < l.length ∧ M = m.length) := by omega
  have HM := Lib.hid hM
  rw [hM] at KV
  clear hM
  go_enter Tryd.func17, Tryd.ntmps17
  go_wp2_with (fail)
  go_loopw [5, 6] (fun out i wr => ∃ (j : Nat) (L : List Int) (n : Nat) (R : Option Addr) (cr : Nat), i = .int .i64 j ∧ j ≤ M ∧ out = .slice R n cr ∧ Hid (L.length = n) ∧ n ≤ j ∧ Hid (turnTo l m j = L) ∧ Hid (IOwn w.heap.size wr R cr L) ∧ Below w.heap.size w wr) (fun _ i _ => M - (intOf i).toNat)
  case atStart => exact ⟨0, [], 0, none, 0, rfl, by omega, rfl, rfl, by omega, rfl, IOwn.nil _ _, Below.refl _ _⟩
  case round =>
    obtain ⟨j, L, n, R, cr, rfl, hj, rfl, hn, hnj, hL, hO, HBr⟩ := hrel
    by_cases hjm : j < M
    · clear hM4
      have hs := turnTo_succ l m j
      have hra := ha.below HBr
      have hrb := hb.below HBr
      have hsz := HBr.size
      obtain ⟨ad, rfl, _, hca⟩ := hra (by omega)
      obtain ⟨ad', rfl, _, hcb⟩ := hrb (by omega)
      have h1a := hca j (by omega)
      have h1b := hcb j (by omega)
      clear hra hrb ha hb
      by_cases he : l.getD j 0 = m.getD j 0
      · rw [if_pos he, hL.out] at hs
        rw [← he] at h1b
        have HS2 := Lib.hid hs
        clear hca hcb hs he
        generalize l.getD j 0 = x at *
        go_wp2_with (fail)
        go_quiet (fail)
        go_wp2_with (fail)
        go_roundw
        case rel => exact ⟨j + 1, L, n, R, cr, by go_num, by omega, rfl, hn, by omega, HS2, (hO.out.below (below_drewN (Below.refl _ _) _)), below_drewN HBr _⟩
        case measure => simp [intOf]; omega
      · rw [if_neg he, hL.out] at hs
        have HS2 := Lib.hid hs
        have hne : ((l.getD j 0 : Int) != (m.getD j 0 : Nat)) = true := by rw [bne_iff_ne]; omega
        clear hca hcb hs he
        generalize l.getD j 0 = x at *
        generalize m.getD j 0 = y at *
        go_wp2_with (fail)
        go_quiet (fail)
        go_wp2_with (at_builtin; refine wpList_append_r rfl (.tmp 28) (.tmp 30) 25 rfl 3 i0 _ 1 8 Tryd.underlying25 HI.out HZ.out HS.out HB.out rfl R n cr (iv L) rfl ((hO.out.two nq _).at hn.out) ⟨wr.heap.size, 0, none⟩ 1 1 (iv [(j : Int)]) rfl rfl (cells_one (heap_alloc_new _ _)) (iv_one _) (by decide) (by unfold maxLen; omega) (by omega) ?_; intro g' c2 w1 hown2 hgr hg)
        have hst := (hO.out.two nq _).step (by simp; omega) ((below_drewN HBr nq).alloc (by exact hsz) _) hn.out hown2 hgr hg HS2.out.symm
        go_roundw
        case rel => exact ⟨j + 1, _, n + 1, _, c2, by go_num, by omega, rfl, hst.2.2, by omega, rfl, hst.1, hst.2.1⟩
        case measure => simp [intOf]; omega
    · obtain rfl : j = M := by omega
      have KF : GivesI (ni (turnedL l m)) w (.returned (.slice R n cr)) wr := by
        refine ⟨R, cr, ?_, ?_, HBr⟩
        · rw [← KV.out, hL.out, hn.out]
        · rw [← KV.out, hL.out]
          exact hO.out
      have KFH := Lib.hid KF
      clear KF hO KV
      by_cases hl : j < l.length
      · have hm : m.length = j := by omega
        clear hM4
        go_wp2_with (fail)
        go_ret
        exact KFH.out
      · go_wp2_with (fail)
        go_ret
        exact KFH.out
/-- What Take answers. -/
def takeE (l : List Nat) (n k : Int) : Int := if validB l n then (if k < 0 then 2 else if (frN l n : Int) < k then 4 else 0) else 2
def takeG (l : List Nat) (n k : Int) : List Int := if takeE l n k = 0 then up (tookL l n.toNat k.toNat) else []
def takeR (l : List Nat) (n k : Int) : List Nat := if takeE l n k = 0 then onsL l (tookL l n.toNat k.toNat) else []
theorem takeG_yes {l : List Nat} {n k : Int} (h : takeE l n k = 0) : takeG l n k = up (tookL l n.toNat k.toNat) := if_pos h
theorem takeR_yes {l : List Nat} {n k : Int} (h : takeE l n k = 0) : takeR l n k = onsL l (tookL l n.toNat k.toNat) := if_pos h
theorem takeG_no {l : List Nat} {n k : Int} (h : takeE l n k ≠ 0) : takeG l n k = [] := if_neg h
theorem takeR_no {l : List Nat} {n k : Int} (h : takeE l n k ≠ 0) : takeR l n k = [] := if_neg h
def TakesP (l : List Nat) (n k : Int) (w : World) (e : Ending) (w' : World) : Prop :=
  ∃ G cg R cr, e = .returned (.tuple #[.slice G (takeG l n k).length cg, .slice R (takeR l n k).length cr, .int .i64 (takeE l n k)]) ∧ IOwn w.heap.size w' G cg (takeG l n k) ∧ Row w' R (takeR l n k) ∧ (∀ ad, R = some ad → w.heap.size ≤ ad.block) ∧ Below w.heap.size w w'
theorem TakesP.no {l : List Nat} {n k : Int} {w w' : World} {E : Int} (h : takeE l n k = E) (h0 : E ≠ 0) (hb : Below w.heap.size w w') : TakesP l n k w (.returned (.tuple #[.slice none 0 0, .slice none 0 0, .int .i64 E])) w' := by
  have h1 : takeE l n k ≠ 0 := by rw [h]; exact h0
  refine ⟨none, 0, none, 0, ?_, ?_, ?_, (fun ad h => by cases h), hb⟩
  · rw [takeG_no h1, takeR_no h1, h]; rfl
  · rw [takeG_no h1]; exact IOwn.nil _ _
  · rw [takeR_no h1]; exact Row.nil _ _
theorem TakesP.yes {l : List Nat} {n k : Int} {w w' : World} {T : List Nat} {t N : Nat} {G R : Option Addr} {cg cr : Nat} (h : takeE l n k = 0) (hT : tookL l n.toNat k.toNat = T) (ht : T.length = t) (hN : l.length = N) (hg : IOwn w.heap.size w' G cg (up T)) (hr : Row w' R (onsL l T)) (hf : ∀ ad, R = some ad → w.heap.size ≤ ad.block)
    (hb : Below w.heap.size w w') : TakesP l n k w (.returned (.tuple #[.slice G t cg, .slice R N cr, .int .i64 0])) w' := by
  refine ⟨G, cg, R, cr, ?_, ?_, ?_, hf, hb⟩
  · rw [takeG_yes h, takeR_yes h, hT, up_length, onsL_len, ht, h, hN]
  · rw [takeG_yes h, hT]; exact hg
  · rw [takeR_yes h, hT]; exact hr
theorem takeE_0 {l : List Nat} {n k : Int} (h : takeE l n k = 0) : validB l n = true ∧ 0 ≤ k ∧ k ≤ (frN l n : Nat) := by
  unfold takeE at h
  split at h
  · rename_i hv
    split at h
    · cases h
    · split at h
      · cases h
      · exact ⟨hv, by omega, by omega⟩
  · cases h
theorem frees_prefix (l : List Nat) (j d : Nat) : ∃ r, freesL l (j + d) = freesL l j ++ r := by
  induction d with
  | zero => exact ⟨[], by simp⟩
  | succ d ih =>
    obtain ⟨r, hr⟩ := ih
    rw [← Nat.add_assoc, frees_succ, hr]
    split
    · exact ⟨r ++ [j + d], by rw [List.append_assoc]⟩
    · exact ⟨r, rfl⟩
/-- Once k are taken, it stays so. -/
theorem took_full {l : List Nat} {j m k : Nat} (hjm : j ≤ m) (h : k ≤ (freesL l j).length) : tookL l m k = tookL l j k := by
  obtain ⟨r, hr⟩ := frees_prefix l j (m - j)
  rw [show j + (m - j) = m by omega] at hr
  unfold tookL
  rw [hr, List.take_append_of_le_length h]
theorem took_full' {l : List Nat} {j m k : Nat} (hjm : j ≤ m) (h : k ≤ (tookL l j k).length) : tookL l m k = tookL l j k := by
  refine took_full hjm ?_
  unfold tookL at h
  rw [List.length_take] at h
  omega
theorem took_le (l : List Nat) (j k : Nat) : (tookL l j k).length ≤ k := by
  unfold tookL
  rw [List.length_take]
  omega
theorem withL_on' {l : List Nat} {r : Nat} (h : isBit l r) : withL l r true = onL l r := by
  rw [withL_yes h]
  unfold onL one
  rw [show ((r : Int) / 64).toNat = r / 64 by omega, show ((r : Int) % 64).toNat = r % 64 by omega]
  rfl
theorem withL_off' {l : List Nat} {r : Nat} (h : isBit l r) : withL l r false = clrL l r := by
  rw [withL_yes h]
  unfold clrL one
  rw [show ((r : Int) / 64).toNat = r / 64 by omega, show ((r : Int) % 64).toNat = r % 64 by omega]
  rfl
theorem onsL_snoc (l : List Nat) (is : List Nat) (i : Nat) : onsL l (is ++ [i]) = onL (onsL l is) i := by
  unfold onsL
  rw [List.foldl_append]
  rfl
theorem up_snoc (is : List Nat) (i : Nat) : up (is ++ [i]) = up is ++ [(i : Int) + 1] := by
  unfold up
  rw [List.map_append]
  rfl
theorem onsL_wd {l : List Nat} (h : Wd l) (is : List Nat) : Wd (onsL l is) := wd_ons is (l := l) h
theorem clrsL_wd {l : List Nat} (h : Wd l) (is : List Nat) : Wd (clrsL l is) := wd_clrs is (l := l) h

theorem Row.grown {w w' : World} {A : Option Addr} {l : List Nat} {row : Option Nat} (h : Row w A l) (hg : w.grownBy w' row) (hA : ∀ ad, A = some ad → some ad.block ≠ row) : Row w' A l := fun h0 => by
  obtain ⟨ad, e, hl, hc⟩ := h h0
  exact ⟨ad, e, Nat.lt_of_lt_of_le hl hg.size, fun k hk => (World.cell?_of_block (by rw [add_block]; exact hg.block ad.block hl (hA ad e))).trans (hc k hk)⟩
/-- What the document's loop holds. -/
structure Tk (l : List Nat) (B : Nat) (w wr : World) (j K t : Nat) (T : List Nat) (G : Option Addr) (cg : Nat) (R : Option Addr) : Prop where
  tk : tookL l j K = T
  len : T.length = t
  le : t ≤ K
  lej : t ≤ j
  own : IOwn B wr G cg (up T)
  row : Row wr R (onsL l T)
  fr : ∀ ad, R = some ad → B ≤ ad.block
  bw : Below B w wr
  ap : ∀ a b, G = some a → R = some b → a.block ≠ b.block
theorem took_lej (l : List Nat) (j k : Nat) : (tookL l j k).length ≤ j := by
  have := frees_len l j
  unfold tookL
  rw [List.length_take]
  omega
set_option maxRecDepth 100000 in
theorem rtake_calls (A : Option Addr) (l : List Nat) (c : Nat) (n k : Int) (w : World) (hn : -9223372036854775808 ≤ n) (hn2 : n ≤ 9223372036854775807) (hr : Row w A l) (hl : Wd l) (hlen : l.length ≤ 65536) :
    Calls Tryd.prog 11 #[.slice A l.length c, .int .i64 n, .int .i64 k] w (TakesP l n k w) := by
  have cf := rfree_calls A l c n w hn hn2 hr hl (by omega)
  cases hv : validB l n
  · rw [freeV_no hv, freeE_no hv] at cf
    have KE := Lib.hid (show takeE l n k = 2 by unfold takeE; rw [hv]; rfl)
    have CF := Lib.hid cf
    clear cf hv
    go_enter Tryd.func11, Tryd.ntmps11
    go_wp2_with (go_at_call 13; refine (show Calls Tryd.prog 13 _ _ _ from CF.out).mono ?_; rintro e w' ⟨rfl, rfl⟩)
    exact bodyPost_ret (v := .tuple #[.slice none 0 0, .slice none 0 0, .int .i64 2]) (by simp [results, Tryd.results11, go_sem]) rfl (TakesP.no KE.out (by decide) (Below.refl _ _))
  · rw [freeV_yes hv, freeE_yes hv] at cf
    obtain ⟨h0, h1⟩ := validB_iff.1 hv
    have hfle := frN_le l n
    by_cases hk : k < 0
    · have KE := Lib.hid (show takeE l n k = 2 by unfold takeE; rw [hv, if_pos rfl, if_pos hk])
      have CF := Lib.hid cf
      clear cf hv
      go_enter Tryd.func11, Tryd.ntmps11
      go_wp2_with (go_at_call 13; refine (show Calls Tryd.prog 13 _ _ _ from CF.out).mono ?_; rintro e w' ⟨rfl, rfl⟩)
      exact bodyPost_ret (v := .tuple #[.slice none 0 0, .slice none 0 0, .int .i64 2]) (by simp [results, Tryd.results11, go_sem]) rfl (TakesP.no KE.out (by decide) (Below.refl _ _))
    by_cases hfk : (frN l n : Int) < k
    · have KE := Lib.hid (show takeE l n k = 4 by unfold takeE; rw [hv, if_pos rfl, if_neg hk, if_pos hfk])
      have CF := Lib.hid cf
      clear cf hv
      generalize frN l n = f at *
      go_enter Tryd.func11, Tryd.ntmps11
      go_wp2_with (go_at_call 13; refine (show Calls Tryd.prog 13 _ _ _ from CF.out).mono ?_; rintro e w' ⟨rfl, rfl⟩)
      exact bodyPost_ret (v := .tuple #[.slice none 0 0, .slice none 0 0, .int .i64 4]) (by simp [results, Tryd.results11, go_sem]) rfl (TakesP.no KE.out (by decide) (Below.refl _ _))
    have KE := Lib.hid (show takeE l n k = 0 by unfold takeE; rw [hv, if_pos rfl, if_neg hk, if_neg hfk])
    have CF := Lib.hid cf
    obtain ⟨i0, hi0, hz0, hs0, hb0⟩ := info_parts i64_info
    obtain ⟨j0, hj0, hy0, ht0, hu0⟩ := info_parts u64_info
    have HI := Lib.hid hi0
    have HZ := Lib.hid hz0
    have HS := Lib.hid hs0
    have HB := Lib.hid hb0
    have HJ := Lib.hid hj0
    have HY := Lib.hid hy0
    have HT := Lib.hid ht0
    have HU := Lib.hid hu0
    clear hi0 hz0 hs0 hb0 hj0 hy0 ht0 hu0 cf hv
    have hk0 : 0 ≤ k := by omega
    obtain ⟨m, rfl⟩ := Int.eq_ofNat_of_zero_le h0
    obtain ⟨K, rfl⟩ := Int.eq_ofNat_of_zero_le hk0
    have hKm : K ≤ m := by omega
    clear hk hk0 h0
    generalize frN l (m : Int) = f at *
    go_enter Tryd.func11, Tryd.ntmps11
    go_wp2_with (first
      | (go_at_call 13; refine (show Calls Tryd.prog 13 _ _ _ from CF.out).mono ?_; rintro e w' ⟨rfl, rfl⟩)
      | (at_builtin; refine wpList_clone rfl (.const (.slice none 0 0)) (.tmp 31) 22 rfl 38 j0 Tryd.underlying22 HJ.out HY.out HT.out HU.out A l c rfl rfl hr (by omega) ?_; intro A1 c1 w1 hr1 hf1 hb1 _))
    have hAt : Tk l w.heap.size w w1 0 K 0 [] none 0 A1 := ⟨by unfold tookL freesL; simp, rfl, by omega, by omega, IOwn.nil _ _, hr1, fun ad e => by obtain ⟨g, e2, hg⟩ := hf1 ad e; rw [e2]; exact hg, hb1, fun a b h => by cases h⟩
    clear hr1 hf1 hb1
    go_loopw [11, 12, 13] (fun row got i wr => ∃ (j t : Nat) (T : List Nat) (G : Option Addr) (cg : Nat) (R : Option Addr) (cr : Nat), i = .int .i64 ((j : Int) + 1) ∧ j ≤ m ∧ got = .slice G t cg ∧ row = .slice R l.length cr ∧ Tk l w.heap.size w wr j K t T G cg R) (fun _ _ i _ => m + 1 - (intOf i).toNat)
    case atStart => exact ⟨0, 0, [], none, 0, A1, c1, rfl, by omega, rfl, rfl, hAt⟩
    case round =>
      obtain ⟨j, t, T, G, cg, R, cr, rfl, hj, rfl, rfl, hk⟩ := hrel
      have htK := hk.le
      have htj := hk.lej
      by_cases hjm : j < m
      · by_cases htk : t < K
        · have hlow := took_low l j K
          rw [hk.tk, hk.len] at hlow
          have hsz := hk.bw.size
          have ct := taken_calls A l c ((j : Int) + 1) wr (by omega) (by omega) (hr.below hk.bw) hl (by omega)
          rw [show ((j : Int) + 1 - 1).toNat = j by omega] at ct
          have hib : isBit l j := ⟨by omega, by omega⟩
          cases hb : (bitL l j == 1)
          · rw [hb] at ct
            rw [if_pos ⟨bit_two _ _ hb, htk⟩] at hlow
            have CT := Lib.hid ct
            have HL := Lib.hid hlow
            have HK := Lib.hid hk
            have HN := Lib.hid (onsL_len T l)
            have hibT : isBit (onsL l T) j := ⟨by omega, by rw [onsL_len]; omega⟩
            have HW := Lib.hid (withL_on' hibT)
            have HE := Lib.hid (hasE_yes hibT)
            have cw := fun (W : World) (hb : Row W R (onsL l T)) => rwith_calls R (onsL l T) cr j true W (by omega) hb (onsL_wd hl T) (by rw [onsL_len]; omega)
            rw [HW.out, HE.out] at cw
            rw [HN.out] at cw
            have HN2 : Hid ((onL (onsL l T) j).length = l.length) := by
              show _ = _
              rw [onL_len, onsL_len]
            have CW := Lib.hid cw
            clear ct hlow hk hb hibT hib hAt cw
            go_wp2_with (first
              | (go_at_call 23; refine (show Calls Tryd.prog 23 _ _ _ from CT.out).mono ?_; rintro e w' ⟨rfl, rfl⟩)
              | (at_builtin; refine wpList_append_r rfl (.tmp 48) (.tmp 50) 25 rfl 3 i0 _ 1 8 Tryd.underlying25 HI.out HZ.out HS.out HB.out rfl G t cg (iv (up T)) rfl ((HK.out.own.two 0 _).at (by rw [up_length]; exact HK.out.len)) ⟨wr.heap.size, 0, none⟩ 1 1 (iv [(j : Int) + 1]) rfl rfl (cells_one (heap_alloc_new _ _)) (iv_one _) (by decide) (by unfold maxLen; omega) (by omega) ?_; intro g' c2 w2 hown2 hgr hg; have hst := (HK.out.own.two 0 _).step (by simp; omega) (HK.out.bw.alloc (by exact hsz) _) (by rw [up_length]; exact HK.out.len) hown2 hgr hg (up_snoc T j).symm; have hrow2 := (HK.out.row.below (on_alloc2 wr _)).grown hgr (fun ad e h => by cases G with | none => cases h | some ad2 => injection h with h; exact HK.out.ap ad2 ad rfl e h.symm); have HST := Lib.hid hst; have HR2 := Lib.hid hrow2; clear hown2 hgr hg hst hrow2)
              | (go_at_call 24; refine (CW.out w2 HR2.out).mono ?_; rintro e w3 ⟨A3, c3, rfl, hr3, hf3, hb3⟩; rw [HN2.out]))
            have hst := HST.out
            have hs2 := hst.2.1.size
            go_roundw
            case rel =>
              refine ⟨j + 1, t + 1, T ++ [j], _, c2, A3, c3, by go_num, by omega, by go_num, rfl, HL.out, by rw [List.length_append, HK.out.len]; rfl, by omega, by omega, hst.1.below hb3, by rw [onsL_snoc]; exact hr3, fun ad e => ?_, hst.2.1.trans (hb3.mono hst.2.1.size), fun a b ha hb => ?_⟩
              · obtain ⟨g, e2, hg⟩ := hf3 ad e
                rw [e2]
                exact Nat.le_trans hs2 hg
              · obtain ⟨g, e2, hg⟩ := hf3 b hb
                have h1 := hst.1.1.lt a ha
                rw [e2]
                show a.block ≠ g
                omega
            case measure => simp [intOf]; omega
          · rw [hb] at ct
            rw [if_neg (fun h => by rw [h.1] at hb; cases hb)] at hlow
            have CT := Lib.hid ct
            have HL := Lib.hid hlow
            have HK := Lib.hid hk
            clear ct hlow hk hb hib hAt
            go_wp2_with (go_at_call 23; refine (show Calls Tryd.prog 23 _ _ _ from CT.out).mono ?_; rintro e w' ⟨rfl, rfl⟩)
            go_roundw
            case rel => exact ⟨j + 1, t, T, G, cg, R, cr, by go_num, by omega, rfl, rfl, HL.out, HK.out.len, HK.out.le, by omega, HK.out.own, HK.out.row, HK.out.fr, HK.out.bw, HK.out.ap⟩
            case measure => simp [intOf]; omega
        · obtain rfl : t = K := by omega
          have hT : tookL l m t = T := by
            rw [took_full' (j := j) (by omega) (by rw [hk.tk, hk.len]; exact Nat.le_refl _)]
            exact hk.tk
          have KF := Lib.hid (TakesP.yes KE.out (by rw [Int.toNat_natCast, Int.toNat_natCast]; exact hT) hk.len rfl hk.own hk.row hk.fr hk.bw (cr := cr))
          clear hk hAt hT
          go_wp2_with (fail)
          exact bodyPost_ret (v := .tuple #[.slice G t cg, .slice R l.length cr, .int .i64 0]) (by simp [results, Tryd.results11, go_sem]) rfl KF.out
      · obtain rfl : j = m := by omega
        have KF := Lib.hid (TakesP.yes KE.out (by rw [Int.toNat_natCast, Int.toNat_natCast]; exact hk.tk) hk.len rfl hk.own hk.row hk.fr hk.bw (cr := cr))
        clear hk hAt
        go_wp2_with (fail)
        exact bodyPost_ret (v := .tuple #[.slice G t cg, .slice R l.length cr, .int .i64 0]) (by simp [results, Tryd.results11, go_sem]) rfl KF.out
end Go.Proofs.YtaafchcpnceddaaDoor
