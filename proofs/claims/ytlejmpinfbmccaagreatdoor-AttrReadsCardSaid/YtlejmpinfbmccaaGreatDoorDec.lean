/- Words that are attributes, or why they are none. -/
import Derived.Test.YtlejmpinfbmccaaGreatDoorEn
import Derived.Test.YtlejmpinfbmccaaGreatDoorPl
import Derived.Test.YtlejmpinfbmccaaGreatDoorSumT
import Derived.Test.YtlejmpinfbmccaaGreatDoorGu
set_option linter.unusedSimpArgs false
set_option linter.unusedVariables false
set_option linter.unusedSimpArgs false
set_option linter.unusedVariables false
namespace Go.Proofs.YtlejmpinfbmccaaGreatDoor
open Go.RowKit SumMath WordMath
set_option maxRecDepth 100000 in
theorem eqW_calls (A B : Option Addr) (l m : List Nat) (c d : Nat) (w : World) (ha : Row w A l) (hb : Row w B m) (hlen : l.length ≤ 140737488355328) (hlen2 : m.length ≤ 140737488355328) :
    Calls Tryz.prog 77 #[.slice A l.length c, .slice B m.length d] w (Q (.bool (sameV l m)) w) := by
  by_cases hn : l.length = m.length
  · go_enter Tryz.func77, Tryz.ntmps77
    go_wp2_with (fail)
    go_loopw [13] (fun i wr => ∃ k : Nat, i = .int .i64 k ∧ k ≤ l.length ∧ SameTo l m k ∧ ∃ q, wr = w.drewN q) (fun i _ => l.length - (intOf i).toNat)
    case atStart => exact ⟨0, rfl, by omega, ⟨fun j hj => absurd hj (by omega)⟩, 0, rfl⟩
    case round =>
      obtain ⟨k, rfl, hk, hs, q, rfl⟩ := hrel
      by_cases h1 : k < l.length
      · obtain ⟨ad, rfl, _, hca⟩ := ha (by omega)
        obtain ⟨ad', rfl, _, hcb⟩ := hb (by omega)
        have h1a := hca k h1
        have h1b := hcb k (by omega)
        by_cases he : l.getD k 0 = m.getD k 0
        · have hs' : SameTo l m (k + 1) := ⟨fun j hj => by
            by_cases h : j < k
            · exact hs.all j h
            · obtain rfl : j = k := by omega
              exact he⟩
          rw [← he] at h1b
          clear hca hcb ha hb he
          generalize l.getD k 0 = x at *
          go_wp2_with (fail)
          go_quiet (fail)
          go_wp2_with (fail)
          go_roundw
          case rel => exact ⟨k + 1, by go_num, by omega, hs', _, rfl⟩
          case measure => simp [intOf]; omega
        · have hne : ((l.getD k 0 : Int) == (m.getD k 0 : Nat)) = false := by rw [beq_eq_false_iff_ne]; omega
          have kv : Hid (sameV l m = false) := by
            show sameV l m = false
            unfold sameV
            rw [decide_eq_false_iff_not]
            rintro rfl
            exact he rfl
          clear hca hcb ha hb he
          generalize l.getD k 0 = x at *
          generalize m.getD k 0 = y at *
          go_wp2_with (fail)
          go_quiet (fail)
          go_wp2_with (fail)
          go_ret
          rw [kv.out]
          rw [World.drewN_drewN]
          exact Q.of
      · have kv : Hid (sameV l m = true) := by
          show sameV l m = true
          unfold sameV
          rw [decide_eq_true_eq]
          obtain rfl : k = l.length := by omega
          exact hs.eq hn
        go_wp2_with (fail)
        go_ret
        rw [kv.out]
        exact Q.of
  · have kv : Hid (sameV l m = false) := by
      show sameV l m = false
      unfold sameV
      rw [decide_eq_false_iff_not]
      rintro rfl
      exact hn rfl
    have hne : ((l.length : Int) == (m.length : Nat)) = false := by rw [beq_eq_false_iff_ne]; omega
    go_enter Tryz.func77, Tryz.ntmps77
    go_wp2_with (fail)
    go_ret
    rw [kv.out]
    exact Q.self

/-- They are as many as those of attributes, and begin like them. -/
def mkB (l : List Nat) : Bool := decide (l.length = 32) && decide (fld (l.getD 0 0) 32 32 = 1096045650)
theorem mkB_len {l : List Nat} (h : mkB l = true) : l.length = 32 := by
  unfold mkB at h
  rw [Bool.and_eq_true, decide_eq_true_eq] at h
  exact h.1
set_option maxRecDepth 100000 in
theorem marked_calls (A : Option Addr) (l : List Nat) (c : Nat) (w : World) (hr : Row w A l) (hl : Wd l) :
    Calls Tryz.prog 74 #[.slice A l.length c] w fun e w' => e = .returned (.bool (mkB l)) ∧ w = w' := by
  by_cases h32 : l.length = 32
  · obtain ⟨ad, rfl, hlt, hc⟩ := hr (by omega)
    have hc0 := hc 0 (by omega)
    have hl0 := hl 0
    have HV : Hid (mkB l = decide (fld (l.getD 0 0) 32 32 = 1096045650)) := Lib.hid (by unfold mkB; rw [decide_eq_true h32, Bool.true_and])
    obtain ⟨x, hx⟩ : ∃ x, l.getD 0 0 = x := ⟨_, rfl⟩
    rw [hx] at hc0 hl0 HV
    have key := get_calls (x : Nat) 32 32 w (by omega) (by omega) (by omega)
    rw [getV_yes ⟨by decide, by decide, by decide⟩, getE_yes ⟨by decide, by decide, by decide⟩] at key
    obtain ⟨q, hq⟩ : ∃ q, fld x 32 32 = q := ⟨_, rfl⟩
    have hq2 : fld (x : Int).toNat (32 : Int).toNat (32 : Int).toNat = q := hq
    rw [hq2] at key
    rw [hq] at HV
    have hd : ((q : Int) == 1096045650) = decide (q = 1096045650) := by
      by_cases h : q = 1096045650
      · subst h; rfl
      · rw [decide_eq_false h, beq_eq_false_iff_ne]; omega
    have hc0' : w.cell? ad = some (.int .u64 (x : Nat)) := by
      have e : ad.add 0 = ad := by unfold Addr.add; simp
      rw [← e]; exact hc0
    rw [h32]
    clear hc hl hr hx hq hq2 h32
    go_enter Tryz.func74, Tryz.ntmps74
    go_wp2_with (fail)
    refine key.mono ?_
    rintro e w' ⟨rfl, rfl⟩
    go_wp2_with (fail)
    go_ret
    exact ⟨by rw [HV.out]; rfl, rfl⟩
  · have HV : Hid (mkB l = false) := Lib.hid (by unfold mkB; rw [decide_eq_false h32]; rfl)
    have hne : ((l.length : Int) == 32) = false := by rw [beq_eq_false_iff_ne]; omega
    go_enter Tryz.func74, Tryz.ntmps74
    go_wp2_with (fail)
    go_ret
    exact ⟨by rw [HV.out]; rfl, rfl⟩
/-- No attributes. -/
abbrev atZ : At := ⟨0, 0, 0, acZ, false, acZ, []⟩
abbrev alieZ : ALie := ⟨lieZ, lieZ, none, 0⟩
theorem afrom_Z (B : Nat) : AFrom B alieZ := ⟨fun ad e => (by cases e), fun ad e => (by cases e), fun ad e => (by cases e), fun ad e => (by cases e), fun ad e => (by cases e)⟩
theorem AFrom.mono {B B' : Nat} {p : ALie} (h : AFrom B p) (hb : B' ≤ B) : AFrom B' p := ⟨fun ad e => Nat.le_trans hb (h.a ad e), fun ad e => Nat.le_trans hb (h.b ad e), fun ad e => Nat.le_trans hb (h.c ad e), fun ad e => Nat.le_trans hb (h.d ad e), fun ad e => Nat.le_trans hb (h.x ad e)⟩
theorem alies_Z (w : World) : ALies w atZ alieZ := ⟨lies_acZ w, lies_acZ w, Cel.nil _ _⟩
/-- Where they are told to be none. -/
def badA (l : List Nat) : Option Nat := if mkB l = false then some 0 else if openB l = false then some 31 else if (amayB (rdP (l.take 31)) && sameV (sealed (atL (rdP (l.take 31)))) l) = true then none else some 1
def attA (l : List Nat) : At := match badA l with
  | none => rdP (l.take 31)
  | some _ => atZ
def whyO (n : Sn) : Option Nat → Value
  | none => .nilIface
  | some k => whyV n k
theorem badA_is {l : List Nat} {k : Nat} (h : badA l = some k) : isBad k := by
  unfold badA at h
  split at h
  · cases h; exact .inl rfl
  · split at h
    · cases h; exact .inr (.inl rfl)
    · split at h
      · cases h
      · cases h; exact .inr (.inr rfl)
theorem setCell_self {w : World} {b k : Nat} {cs : Array Value} {t : TypeId} {v : Value} (h : w.heap[b]? = some (.cells cs t (0, 0))) (hv : cs[k]? = some v) : w.setCell ⟨b, k, none⟩ v = w := by
  have e : (w.setCell ⟨b, k, none⟩ v).heap = w.heap := by
    apply Array.ext
    · simp
    · intro i h1 h2
      simp only [World.setCell, Array.getElem_modify]
      by_cases hi : b = i
      · subst hi
        have hh : w.heap[b] = .cells cs t (0, 0) := by
          rw [Array.getElem?_eq_getElem h2] at h
          exact Option.some.inj h
        have hs : cs.setIfInBounds k v = cs := by
          apply Array.ext
          · simp
          · intro j h3 h4
            rw [Array.getElem_setIfInBounds]
            split
            · rename_i e
              subst e
              rw [Array.getElem?_eq_getElem h4] at hv
              exact (Option.some.inj hv).symm
            · rfl
        simp [hh, hs]
      · simp [hi]
  unfold World.setCell at e ⊢
  cases w
  simp only at e
  simp only [e]
theorem results_row_slot {P : Program} {fn : Func} {p q : Tmp} {ty : TypeId} (h : fn.results = #[.cell p ty, .tmp q]) (tmps : Array Value) (w : World) (g : Nat) (t : TypeId) (cs : Array Value) (fr : Nat × Nat) (d : TypeDesc)
    (hp : tmps.getD p undef = .pointer (some ⟨g, 0, none⟩)) (hg : w.heap[g]? = some (.cells cs t fr))
    (hu : P.underlying ty = some d) (hd : (match d with | .struct _ | .array _ _ => true | _ => false) = true) (hi : (P.info? ty).map (·.size) = some cs.size) (v : Value) (hq : tmps.getD q undef = v) :
    (results fn tmps).run P w = .ok (.tuple #[.agg cs, v]) w := by
  have hp' : tmps[p]?.getD undef = .pointer (some ⟨g, 0, none⟩) := by simpa using hp
  have hq' : tmps[q]?.getD undef = v := by simpa using hq
  simp [results, h, hp', hq', asAddr, run_loadVar_row w g t ty cs fr d hg hu hd hi]
theorem rdP_num (l : List Nat) : ANum (rdP l) := by
  have hw : ∀ a n (k : Nat) p, (whoL l a n)[k]? = some p → p.id < 65536 ∧ p.pm < 256 := by
    intro a n k p h
    unfold whoL at h
    rw [List.getElem?_map] at h
    cases hk : (List.range (min n 4))[k]? with
    | none => rw [hk] at h; cases h
    | some j =>
      rw [hk] at h
      injection h with h
      rw [← h]
      unfold whoK
      exact ⟨Nat.mod_lt _ (by decide), Nat.mod_lt _ (by decide)⟩
  exact ⟨fld16 _ _, fld16 _ _, ⟨hw _ _, hw _ _⟩, ⟨hw _ _, hw _ _⟩⟩
theorem rdP_sm (l : List Nat) : ASm (rdP l) := by
  have h1 : ∀ a n, (whoL l a n).length ≤ 4 := fun a n => by rw [whoL_length]; omega
  have h2 : ∀ a n, (xaL l a n).length ≤ 4 := fun a n => by rw [xaL_length]; omega
  exact ⟨⟨Nat.le_trans (h1 _ _) (by decide), Nat.le_trans (h1 _ _) (by decide)⟩, ⟨Nat.le_trans (h1 _ _) (by decide), Nat.le_trans (h1 _ _) (by decide)⟩, Nat.le_trans (h2 _ _) (by decide)⟩
set_option maxRecDepth 100000 in
set_option maxHeartbeats 4000000 in
theorem decoded_0 (A : Option Addr) (l : List Nat) (c : Nat) (n : Sn) (w : World) (hr : Row w A l) (hl : Wd l) (hN : SnAt w n) (hm : mkB l = false) :
    Calls Tryz.prog 48 #[.slice A l.length c] w fun e w' => ∃ p, e = .returned (.tuple #[(attA l).v p, whyO n (badA l)]) ∧ ALies w' (attA l) p ∧ AFrom w.heap.size p ∧ Below w.heap.size w w' := by
  obtain ⟨V, hV⟩ : ∃ V, V = w.alloc (.cells zA 28) := ⟨_, rfl⟩
  have HZ : Hid (V.heap[w.heap.size]? = some (.cells zA 28 (0, 0))) := Lib.hid (by rw [hV]; exact heap_alloc_new w _)
  have hb : Below w.heap.size w V := by rw [hV]; exact (Below.refl _ _).alloc (Nat.le_refl _) _
  have HB := Lib.hid hb
  have cM := marked_calls A l c V (hr.below hb) hl
  have HN := Lib.hid (hN.below hb)
  rw [hm] at cM
  have HBAD : Hid (badA l = some 0) := Lib.hid (by unfold badA; rw [if_pos hm])
  have HVA : Hid (attA l = atZ) := Lib.hid (by unfold attA; rw [HBAD.out])
  have HV : Hid (((Value.tuple #[(attA l).v alieZ, whyO n (badA l)]) : Value) = .tuple #[.agg zA, whyV n 0]) := Lib.hid (by rw [HBAD.out, HVA.out]; rfl)
  have yg := HN.out.m
  clear hr hl hN hm hb
  go_enter Tryz.func48, Tryz.ntmps48
  go_upto_region 1 with (fail)
  rw [← hV]
  clear hV
  go_wp2_with (fail)
  refine cM.mono ?_
  rintro e w' ⟨rfl, rfl⟩
  go_upto_region 2 with (fail)
  refine wp_giveUp 12 13 0 w.heap.size (whyV n 0) rfl rfl rfl rfl rfl rfl rfl rfl rfl (by kernel_rfl) rfl rfl rfl (by kernel_rfl) (by kernel_rfl) (by kernel_rfl) ⟨by decide, by decide, by decide, show (12 : Nat) < 43 by decide, show (13 : Nat) < 43 by decide, show (3 : Nat) < 43 by decide, by decide, by decide⟩ rfl HZ.out yg ?_
  intro a' h2 h3 hdf
  go_wp2_with (fail)
  exact bodyPost_ret (results_row_slot rfl _ _ w.heap.size 28 _ (0, 0) _ h2 (show V.drew.heap[w.heap.size]? = _ from HZ.out) Tryz.underlying28 rfl attr_size (whyV n 0) h3) hdf ⟨alieZ, by rw [HV.out], by rw [HVA.out]; exact alies_Z _, afrom_Z _, HB.out.drew⟩
theorem openL_take {l : List Nat} (h : openB l = true) (h32 : l.length = 32) : openL l = l.take 31 := by
  have hs : isSealed l := by unfold openB at h; exact of_decide_eq_true h
  rw [openL_yes hs, h32]
theorem badA_31 {l : List Nat} (h1 : mkB l = true) (h2 : openB l = false) : badA l = some 31 := by
  unfold badA
  rw [if_neg (by rw [h1]; decide), if_pos h2]
theorem badA_1 {l : List Nat} (h1 : mkB l = true) (h2 : openB l = true) (h3 : (amayB (rdP (l.take 31)) && sameV (sealed (atL (rdP (l.take 31)))) l) = false) : badA l = some 1 := by
  unfold badA
  rw [if_neg (by rw [h1]; decide), if_neg (by rw [h2]; decide), if_neg (by rw [h3]; decide)]
theorem badA_no {l : List Nat} (h1 : mkB l = true) (h2 : openB l = true) (h3 : (amayB (rdP (l.take 31)) && sameV (sealed (atL (rdP (l.take 31)))) l) = true) : badA l = none := by
  unfold badA
  rw [if_neg (by rw [h1]; decide), if_neg (by rw [h2]; decide), if_pos h3]
theorem Wd_take {l : List Nat} (h : Wd l) (n : Nat) : Wd (l.take n) := fun k => by
  rw [List.getD_eq_getElem?_getD, List.getElem?_take]
  split
  · exact h k
  · decide
set_option maxRecDepth 100000 in
set_option maxHeartbeats 8000000 in
theorem decoded_1 (A : Option Addr) (l : List Nat) (c : Nat) (n : Sn) (w : World) (hr : Row w A l) (hl : Wd l) (hcap : l.length ≤ c) (hN : SnAt w n) (hT : TabAt w) (hm : mkB l = true) :
    Calls Tryz.prog 48 #[.slice A l.length c] w fun e w' => ∃ p, e = .returned (.tuple #[(attA l).v p, whyO n (badA l)]) ∧ ALies w' (attA l) p ∧ AFrom w.heap.size p ∧ Below w.heap.size w w' := by
  obtain ⟨V, hV⟩ : ∃ V, V = w.alloc (.cells zA 28) := ⟨_, rfl⟩
  have HZ : Hid (V.heap[w.heap.size]? = some (.cells zA 28 (0, 0))) := Lib.hid (by rw [hV]; exact heap_alloc_new w _)
  have hb : Below w.heap.size w V := by rw [hV]; exact (Below.refl _ _).alloc (Nat.le_refl _) _
  have HB := Lib.hid hb
  have cM := marked_calls A l c V (hr.below hb) hl
  have HN := Lib.hid (hN.below hb)
  rw [hm] at cM
  have h32 := mkB_len hm
  have HM := Lib.hid hm
  have HW := Lib.hid hl
  have HR := Lib.hid hr
  have HT := Lib.hid hT
  have cO := open_calls A l c V (hr.below hb) hl (by omega) hcap (hT.below hb)
  have HCO := Lib.hid cO
  rw [h32] at HCO
  clear hr hl hN hm hb hT cO
  rw [h32] at cM hcap ⊢
  go_enter Tryz.func48, Tryz.ntmps48
  go_upto_region 1 with (fail)
  rw [← hV]
  clear hV
  go_wp2_with (fail)
  refine cM.mono ?_
  clear cM
  rintro e w' ⟨rfl, rfl⟩
  go_wp2_with (fail)
  refine HCO.out.mono ?_
  clear HCO
  rintro e w1 ⟨A1, c1, rfl, hr1, hf1, hb1, hc1⟩
  have HZ1 := Lib.hid (cells_on HZ.out hb1)
  have HN1 := Lib.hid (HN.out.below hb1)
  have HB1 := Lib.hid (HB.out.trans (hb1.mono HB.out.size))
  clear hb1 HZ HN HB
  cases ho : openB l
  case false =>
    have HBAD := Lib.hid (badA_31 HM.out ho)
    have HVA : Hid (attA l = atZ) := Lib.hid (by unfold attA; rw [HBAD.out])
    have HV : Hid (((Value.tuple #[(attA l).v alieZ, whyO n (badA l)]) : Value) = .tuple #[.agg zA, whyV n 31]) := Lib.hid (by rw [HBAD.out, HVA.out]; rfl)
    have yg := HN1.out.s
    clear ho hr1 hf1 hc1
    go_upto_region 5 with (fail)
    refine wp_giveUp 21 22 1 w.heap.size (whyV n 31) rfl rfl rfl rfl rfl rfl rfl rfl rfl (by kernel_rfl) rfl rfl rfl (by kernel_rfl) (by kernel_rfl) (by kernel_rfl) ⟨by decide, by decide, by decide, show (21 : Nat) < 43 by decide, show (22 : Nat) < 43 by decide, show (3 : Nat) < 43 by decide, by decide, by decide⟩ rfl HZ1.out yg ?_
    intro a' h2 h3 hdf
    go_wp2_with (fail)
    exact bodyPost_ret (results_row_slot rfl _ _ w.heap.size 28 _ (0, 0) _ h2 (show w1.drew.heap[w.heap.size]? = _ from HZ1.out) Tryz.underlying28 rfl attr_size (whyV n 31) h3) hdf ⟨alieZ, by rw [HV.out], by rw [HVA.out]; exact alies_Z _, afrom_Z _, HB1.out.drew⟩
  case true =>
  have HO := Lib.hid ho
  have hol := openL_take ho h32
  rw [hol] at hr1 hc1 ⊢
  clear ho hol
  obtain ⟨L, hL⟩ : ∃ L, l.take 31 = L := ⟨_, rfl⟩
  have hLl : L.length = 31 := by rw [← hL, List.length_take]; omega
  have hLw : Wd L := by rw [← hL]; exact Wd_take HW.out 31
  have HBY : Hid ((amayB (rdP L) && sameV (sealed (atL (rdP L))) l) = true → badA l = none ∧ attA l = rdP L) := Lib.hid (fun h => by
    rw [← hL] at h ⊢
    have e := badA_no HM.out HO.out h
    exact ⟨e, by unfold attA; rw [e]⟩)
  have HBN : Hid ((amayB (rdP L) && sameV (sealed (atL (rdP L))) l) = false → badA l = some 1 ∧ attA l = atZ) := Lib.hid (fun h => by
    rw [← hL] at h
    have e := badA_1 HM.out HO.out h
    exact ⟨e, by unfold attA; rw [e]⟩)
  rw [hL] at hr1 hc1 ⊢
  obtain ⟨ad, rfl, hadlt, hac⟩ := hr1 (by omega)
  obtain ⟨g1, rfl, hg1⟩ := hf1 _ rfl
  have hcs : ∀ j u, (wv L)[j]? = some u → w1.cell? ⟨g1, 0 + j, none⟩ = some u := fun j u hu => by
    have hj : j < L.length := by have := (List.getElem?_eq_some_iff.1 hu).1; rwa [wv_length] at this
    have := hac j hj
    rw [add_zero_block] at this
    rw [Nat.zero_add, this, ← wv_get _ _ hj]
    exact hu
  have HC := Lib.hid hcs
  rw [hLl] at hc1 ⊢
  have hsz : (Tryz.prog.info? 68).map (·.size) = some (wv L).length := by rw [wv_length, hLl]; exact words_size
  have HLW := Lib.hid hLw
  have HLL := Lib.hid hLl
  have cR := fun W => read_calls L W hLl hLw
  have hAt := fun W => run_arrayAt (P := Tryz.prog) (w := W) 68 49 31 (some ⟨g1, 0, none⟩) 31 c1 Tryz.underlying68 (by decide)
  clear hf1 hac hcs hL hLl hLw hg1
  go_wp2_with (refine wpList_load_part rfl 68 (.tmp 24) rfl g1 0 rfl (wv L) _ HC.out Tryz.underlying68 rfl hsz (.agg (wv L).toArray) rfl ?_)
  refine (cR _).mono ?_
  clear cR hAt HC
  rintro e w2 ⟨p, rfl, hal, haf, hb2⟩
  have HAF := Lib.hid haf
  have hw1 := lt_of_cells HZ1.out
  clear haf
  have HZ2 := Lib.hid (cells_on HZ1.out hb2)
  have HN2 := Lib.hid (HN1.out.below hb2)
  have HB2 := Lib.hid (HB1.out.trans (hb2.mono HB1.out.size))
  have HX1 := Lib.hid (rdP_num L)
  have HX2 := Lib.hid (rdP_sm L)
  clear hb2 HZ1 HN1 HB1
  obtain ⟨x, hx⟩ : ∃ x, rdP L = x := ⟨_, rfl⟩
  rw [hx] at hal HX1 HX2 HBY HBN ⊢
  clear hx
  have hone : (x.c p).all (·.oneCell') = true := by rw [← Array.all_toList]; rfl
  have hsz2 : (Tryz.prog.info? 28).map (·.size) = some (x.c p).size := attr_size
  have hold : (zA : Array Value).size = (x.c p).size := rfl
  have hz := heap_alloc_new w2 (.cells zA 28)
  have HZn := Lib.hid hz
  obtain ⟨U, hU⟩ : ∃ U, U = (w2.alloc (.cells zA 28)).setRow w2.heap.size (x.c p) := ⟨_, rfl⟩
  have bu : Below w2.heap.size w2 U := by rw [hU]; exact below_setRow ((Below.refl _ _).alloc (Nat.le_refl _) _) (Nat.le_refl _) _
  have HXB : Hid (Bt U w2.heap.size x p) := Lib.hid (by rw [hU]; exact setRow_heap _ _ _ _ _ _ hz)
  have HAL := Lib.hid (hal.below bu)
  have HZ3 := Lib.hid (cells_on HZ2.out bu)
  have HN3 := Lib.hid (HN2.out.below bu)
  have HB3 := Lib.hid (HB2.out.trans (bu.mono HB2.out.size))
  have HTU := Lib.hid (HT.out.below HB3.out)
  have HRU := Lib.hid (HR.out.below HB3.out)
  obtain ⟨C, hC⟩ : ∃ C, C = x.c p := ⟨_, rfl⟩
  have HXC : Hid (U.heap[w2.heap.size]? = some (.cells C 28 (0, 0))) := Lib.hid (by rw [hC]; exact HXB.out)
  rw [← hC] at hone hsz2 hold hU
  have HCC := Lib.hid hC
  have hvx : x.v p = .agg C := by rw [hC]
  rw [hvx]
  clear hz bu hal HZ2 HN2 HB2 hC hvx
  go_upto_region 7 with (refine wpList_store_rowTo rfl 28 (.tmp 6) (.tmp 26) rfl rfl w2.heap.size C rfl rfl 28 _ HZn.out hsz2 hold hone ?_; rw [← hU])
  clear hU HZn hold
  cases hmay : amayB x
  case false =>
    obtain ⟨e1, e2⟩ := HBN.out (by rw [hmay]; rfl)
    have HVA : Hid (attA l = atZ) := Lib.hid e2
    have HV : Hid (((Value.tuple #[(attA l).v alieZ, whyO n (badA l)]) : Value) = .tuple #[.agg zA, whyV n 1]) := Lib.hid (by rw [e1, e2]; rfl)
    have cE := aencode_bad x p U HAL.out HX2.out hmay
    rw [show x.v p = .agg C by rw [HCC.out]] at cE
    have HCE := Lib.hid cE
    clear e1 e2 cE hmay
    go_wp2_with (refine wpList_load_row rfl 28 (.tmp 6) rfl w2.heap.size rfl 28 C (0, 0) _ HXC.out Tryz.underlying28 rfl hsz2 ?_)
    refine HCE.out.mono ?_
    rintro e w3 ⟨rfl, hb3⟩
    have HZ4 := Lib.hid (cells_on HZ3.out hb3)
    have HB4 := Lib.hid (HB3.out.trans (hb3.mono HB3.out.size))
    have yg := (HN3.out.below hb3).w
    clear hb3
    go_upto_region 9 with (fail)
    refine wp_giveUp 40 41 2 w.heap.size (whyV n 1) rfl rfl rfl rfl rfl rfl rfl rfl rfl (by kernel_rfl) rfl rfl rfl (by kernel_rfl) (by kernel_rfl) (by kernel_rfl) ⟨by decide, by decide, by decide, show (40 : Nat) < 43 by decide, show (41 : Nat) < 43 by decide, show (3 : Nat) < 43 by decide, by decide, by decide⟩ rfl HZ4.out yg ?_
    intro a' h2 h3 hdf
    go_wp2_with (fail)
    exact bodyPost_ret (results_row_slot rfl _ _ w.heap.size 28 _ (0, 0) _ h2 (show w3.drew.heap[w.heap.size]? = _ from HZ4.out) Tryz.underlying28 rfl attr_size (whyV n 1) h3) hdf ⟨alieZ, by rw [HV.out], by rw [HVA.out]; exact alies_Z _, afrom_Z _, HB4.out.drew⟩
  case true =>
  have HMAY := Lib.hid hmay
  have cE := aencode_ok x p U HAL.out hmay HX1.out HTU.out
  rw [show x.v p = .agg C by rw [HCC.out]] at cE
  have HCE := Lib.hid cE
  clear cE hmay
  go_wp2_with (refine wpList_load_row rfl 28 (.tmp 6) rfl w2.heap.size rfl 28 C (0, 0) _ HXC.out Tryz.underlying28 rfl hsz2 ?_)
  refine HCE.out.mono ?_
  clear HCE
  rintro e w3 ⟨g3, c3, rfl, hB3, hg3, hc3, hb3⟩
  have HZ4 := Lib.hid (cells_on HZ3.out hb3)
  have HB4 := Lib.hid (HB3.out.trans (hb3.mono HB3.out.size))
  have yg := (HN3.out.below hb3).w
  have HXC4 := Lib.hid (cells_on HXC.out hb3)
  have HAL4 := Lib.hid (HAL.out.below hb3)
  have cS := eqW_calls (some ⟨g3, 0, none⟩) A (sealed (atL x)) l c3 c w3 hB3.row (HRU.out.below hb3) (by rw [sealed_len]; decide) (by rw [h32]; decide)
  rw [sealed_len, h32] at cS
  have HCS := Lib.hid cS
  clear hb3 hB3 cS HZ3 HB3 HN3 HXC HAL HXB
  go_wp2_with (fail)
  refine HCS.out.mono ?_
  clear HCS
  rintro e w4 ⟨rfl, m, rfl⟩
  have HZ5 : Hid ((w3.drewN m).heap[w.heap.size]? = some (.cells zA 28 (0, 0))) := Lib.hid HZ4.out
  have HB5 := Lib.hid (below_drewN HB4.out m)
  have HXC5 : Hid ((w3.drewN m).heap[w2.heap.size]? = some (.cells C 28 (0, 0))) := Lib.hid HXC4.out
  have yg5 : (w3.drewN m).cell? ⟨2, 0, none⟩ = some (.iface 172 (.pointer (some n.w))) := yg
  obtain ⟨W, hW⟩ : ∃ W, W = w3.drewN m := ⟨_, rfl⟩
  have HALW : Hid (ALies W x p) := Lib.hid (by rw [hW]; exact HAL4.out.below (below_drewN (Below.refl _ _) m))
  rw [← hW] at HZ5 HB5 HXC5 yg5 ⊢
  clear hW yg HZ4 HB4 HXC4 HAL4
  have yg := yg5
  clear yg5
  cases hsv : sameV (sealed (atL x)) l
  case false =>
    obtain ⟨e1, e2⟩ := HBN.out (by rw [HMAY.out, hsv]; rfl)
    have HVA : Hid (attA l = atZ) := Lib.hid e2
    have HV : Hid (((Value.tuple #[(attA l).v alieZ, whyO n (badA l)]) : Value) = .tuple #[.agg zA, whyV n 1]) := Lib.hid (by rw [e1, e2]; rfl)
    clear e1 e2 hsv
    go_upto_region 9 with (fail)
    refine wp_giveUp 40 41 2 w.heap.size (whyV n 1) rfl rfl rfl rfl rfl rfl rfl rfl rfl (by kernel_rfl) rfl rfl rfl (by kernel_rfl) (by kernel_rfl) (by kernel_rfl) ⟨by decide, by decide, by decide, show (40 : Nat) < 43 by decide, show (41 : Nat) < 43 by decide, show (3 : Nat) < 43 by decide, by decide, by decide⟩ rfl HZ5.out yg ?_
    intro a' h2 h3 hdf
    go_wp2_with (fail)
    exact bodyPost_ret (results_row_slot rfl _ _ w.heap.size 28 _ (0, 0) _ h2 (show W.drew.heap[w.heap.size]? = _ from HZ5.out) Tryz.underlying28 rfl attr_size (whyV n 1) h3) hdf ⟨alieZ, by rw [HV.out], by rw [HVA.out]; exact alies_Z _, afrom_Z _, HB5.out.drew⟩
  case true =>
    obtain ⟨e1, e2⟩ := HBY.out (by rw [HMAY.out, hsv]; rfl)
    have HBA := Lib.hid e1
    have HVA := Lib.hid e2
    have HQ : Hid ((W.setRow w.heap.size C).heap[w.heap.size]? = some (.cells C 28 (0, 0))) := Lib.hid (setRow_heap _ _ _ _ _ _ HZ5.out)
    have hlow := HB5.out.size
    have HBQ : Hid (Below w.heap.size w (W.setRow w.heap.size C)) := Lib.hid (below_setRow HB5.out (Nat.le_refl _) _)
    have HALQ : Hid (ALies (W.setRow w.heap.size C) x p) := Lib.hid (HALW.out.keep (Only.setRow (F := fun j => j = w.heap.size) (Only.refl _ _) rfl _) HAF.out (fun i hi => by omega))
    have hold : (zA : Array Value).size = C.size := by rw [HCC.out]; rfl
    clear e1 e2 hsv yg
    go_wp2_with (first
      | (refine wpList_load_row rfl 28 (.tmp 6) rfl w2.heap.size rfl 28 C (0, 0) _ HXC5.out Tryz.underlying28 rfl hsz2 ?_)
      | (refine wpList_store_rowTo rfl 28 (.tmp 2) (.tmp 42) rfl rfl w.heap.size C rfl rfl 28 _ HZ5.out hsz2 hold hone ?_))
    exact bodyPost_ret (v := .tuple #[.agg C, .nilIface]) (results_row_slot rfl _ _ w.heap.size 28 _ (0, 0) _ rfl HQ.out Tryz.underlying28 rfl hsz2 .nilIface rfl) rfl ⟨p, by rw [HBA.out, HVA.out, HCC.out]; rfl, by rw [HVA.out]; exact HALQ.out, HAF.out.mono (by omega), HBQ.out⟩
end Go.Proofs.YtlejmpinfbmccaaGreatDoor
