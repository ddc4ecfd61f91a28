/- name.Split. -/
import Derived.Test.YtganpdplikbppaaDoorNm7
import Derived.Test.YtganpdplikbppaaDoorNm9
import Derived.BigRegion
import Derived.Deep.DeepCutAuto
import Derived.Deep.LoopGhost
import Derived.Deep.CutBlock
set_option linter.unusedSimpArgs false
set_option linter.unusedVariables false
namespace Go.Proofs.YtganpdplikbppaaDoor
open Go.RowKit Go.Shelf Go.Lib
attribute [local go_sem] Oper.semAt_some

theorem prefixE (s : ByteArray) : (⟨#[47]⟩ : ByteArray).data.toList = [47] := rfl
set_option maxRecDepth 100000 in
set_option maxHeartbeats 4000000 in
theorem split_calls (s : ByteArray) (w : World) (hs : s.size < 4294967281) :
    Calls Tryd.prog 15 #[.string s] w (Splits s w) := by
  refine (callsIn_wide (n := 9)).1 ?_
  refine callsIn_of_wp_marks Tryd.func15 rfl trivial ?_ rfl
  simp only [Tryd.ntmps15, List.size_toArray, List.length_cons, List.length_nil, Nat.reduceAdd, Nat.reduceSub, Array.replicate_succ, Array.replicate_zero, List.push_toArray, List.append_toArray, List.nil_append, List.cons_append]
  gi_wp2
  refine wpIn_wide.2 ?_
  refine wp_scope_jumps 0 (fun a A => splitE (tl s) ≠ 0 ∧ Jmp w s (splitE (tl s)) a A) (fun _ _ => 0) (by rfl) ?first ?pass
  case pass =>
    rintro a A ⟨hne, u6, u7, u8, u9, u10, u11, u12, u13, u14, u15, u16, u17, u18, u19, u20, u21, u22, u23, u24, u25, u26, u27, u28, u29, u30, u31, u32, u33, u34, u35, u36, ht, hd, hb, hz, hbl⟩
    obtain ⟨tmps, defers⟩ := a
    simp only [] at ht hd
    subst ht
    have e5 := hb.cell
    obtain ⟨z0, z1, z2⟩ := three_cells hz
    have zf : ∀ k, A.frozen? ⟨w.heap.size, k, none⟩ = false := fun k => by simp [World.frozen?, show A.heap[w.heap.size]? = _ from hz]
    have f0 := zf 0
    have f1 := zf 1
    have f2 := zf 2
    have zl := (Array.getElem?_eq_some_iff.1 hz).1
    have HD := Lib.hid hd
    have HZ := Lib.hid hz
    have HB := Lib.hid hbl
    have HN := Lib.hid hne
    clear hd hz hbl hb zf hne
    go_upto_region 12 with (fail)
    go_region
    rw [set_same HZ.out rfl, set_same HZ.out rfl, set_same HZ.out rfl]
    clear z0 z1 z2 f0 f1 f2 e5
    go_wp2_with (fail)
    simp +zetaDelta only [Exit.jump]
    rcases HD.out with rfl | ⟨D, hD1, rfl, hD2⟩
    · refine ⟨_, results_row_tmp rfl _ _ w.heap.size #[.bool false, .bool false, .slice none 0 0] (.int .i64 (splitE (tl s))) rfl rfl (run_loadVar_row (P := Tryd.prog) _ w.heap.size 29 29 _ (0, 0) _ HZ.out Tryd.underlying29 rfl (by kernel_rfl)), [], none, 0, HB.out.drew, Cel.nil _ _, Nat.le_refl _, by decide, Fresh.none, fun h => absurd h HN.out, fun _ => ⟨rfl, rfl⟩⟩
    · refine ⟨by simp, .inl ⟨_, _, rfl, run_takeDeferred (w := A.drew) hD2, ?_⟩⟩
      have hz2 : (A.drew.putObj D (.deferred none)).heap[w.heap.size]? = some (.cells #[.bool false, .bool false, .slice none 0 0] 29 (0, 0)) := (World.putObj_heap_other (by omega)).trans HZ.out
      refine ⟨_, results_row_tmp rfl _ _ w.heap.size #[.bool false, .bool false, .slice none 0 0] (.int .i64 (splitE (tl s))) rfl rfl (run_loadVar_row (P := Tryd.prog) _ w.heap.size 29 29 _ (0, 0) _ hz2 Tryd.underlying29 rfl (by kernel_rfl)), [], none, 0, below_putObj HB.out.drew (by omega) _, Cel.nil _ _, Nat.le_refl _, by decide, Fresh.none, fun h => absurd h HN.out, fun _ => ⟨rfl, rfl⟩⟩
  case first =>
    refine wpIn_wide (n := 9) |>.1 ?_
    by_cases hw : wholeE (tl s) = 0
    · have hw' : wholeE s.data.toList = 0 := hw
      obtain ⟨hne, hlen, h0⟩ := whole_ok hw
      have hlen' : s.size ≤ 64 := by rw [size_eq]; exact hlen
      gi_wp2_with (first
        | (refine ⟨trivial, ?_⟩; gi_at_call 24; refine (callsIn_wide.2 (whole_calls s _)).mono ?_; rintro e w' ⟨rfl, hx⟩; rw [hx, hw'])
        | (refine ⟨trivial, ?_⟩; gi_at_call 25; refine (callsIn_wide.2 (parts_calls s _)).mono ?_; rintro e w' ⟨rfl, rfl⟩))
      have M0 : Mid w [] ((((w.alloc (.cells #[.bool false, .bool false, .slice none 0 0] 29)).alloc (.cells #[.bool false, .bool false, .slice none 0 0] 29)).alloc (.cells #[.int .i64 0] 23)).alloc (.cells #[.string s] 9)) (.slice none 0 0) := by
        have o1 : Only (fun _ => False) w ((((w.alloc (.cells #[.bool false, .bool false, .slice none 0 0] 29)).alloc (.cells #[.bool false, .bool false, .slice none 0 0] 29)).alloc (.cells #[.int .i64 0] 23)).alloc (.cells #[.string s] 9)) := ((((Only.refl _ w).alloc _).alloc _).alloc _).alloc _
        refine ⟨?_, ?_, rfl, ?_, ?_, o1.below (Nat.le_refl _) (fun i h => h.elim)⟩
        · refine (Below.heap_alloc _ _ _ (by rw [World.size_alloc, World.size_alloc, World.size_alloc]; omega)).trans ((Below.heap_alloc _ _ _ (by rw [World.size_alloc, World.size_alloc]; omega)).trans ?_)
          have := heap_alloc_new (w.alloc (.cells #[.bool false, .bool false, .slice none 0 0] 29)) (.cells #[.bool false, .bool false, .slice none 0 0] 29)
          rwa [World.size_alloc] at this
        · exact World.ownsRow_nil _ _ _ _
        · have := (Boxed.new ((w.alloc (.cells #[.bool false, .bool false, .slice none 0 0] 29)).alloc (.cells #[.bool false, .bool false, .slice none 0 0] 29)) 23 (.int .i64 0)).alloc (.cells #[.string s] 9)
          simp only [World.size_alloc] at this
          exact this
        · exact (Below.heap_alloc _ _ _ (by rw [World.size_alloc, World.size_alloc, World.size_alloc]; omega)).trans ((Below.heap_alloc _ _ _ (by rw [World.size_alloc, World.size_alloc]; omega)).trans ((Below.heap_alloc _ _ _ (by rw [World.size_alloc]; omega)).trans (heap_alloc_new w _)))
      have B3 := Boxed.new (((w.alloc (.cells #[.bool false, .bool false, .slice none 0 0] 29)).alloc (.cells #[.bool false, .bool false, .slice none 0 0] 29)).alloc (.cells #[.int .i64 0] 23)) 9 (.string s)
      have SZ : ((((w.alloc (.cells #[.bool false, .bool false, .slice none 0 0] 29)).alloc (.cells #[.bool false, .bool false, .slice none 0 0] 29)).alloc (.cells #[.int .i64 0] 23)).alloc (.cells #[.string s] 9)).heap.size = w.heap.size + 4 := by simp
      simp only [World.size_alloc] at B3
      clear hx
      generalize (((w.alloc (.cells #[.bool false, .bool false, .slice none 0 0] 29)).alloc (.cells #[.bool false, .bool false, .slice none 0 0] 29)).alloc (.cells #[.int .i64 0] 23)).alloc (.cells #[.string s] 9) = V at *
      have inner : ∀ o, Gives Fence.wide 8 Tryd.prog 35 #[.pointer (some ⟨w.heap.size + 1 + 1 + 1, 0, none⟩)] (fun x : ByteArray => #[Value.string x])
          (fun k => w.heap.size + 6 ≤ k ∧ k < w.heap.size + 12) (fun k => w.heap.size + 6 ≤ k ∧ k < w.heap.size + 12) (fun xs => xs.map toL = ptsL (toL s)) (fun pre => pre.map toL <+: ptsL (toL s)) (pcs (toL s)).length ((V.alloc (.deferred (some []))).alloc (.loop o)) := fun o => by
        have g := parts1_gives 8 (by omega) _ s (by omega) _ ((B3.alloc (.deferred (some []))).alloc (.loop o))
        have e : ((V.alloc (.deferred (some []))).alloc (.loop o)).heap.size = w.heap.size + 6 := by rw [World.size_alloc, World.size_alloc, SZ]
        rw [e] at g
        exact g
      have hN : (pcs (toL s)).length ≤ 65 := by have := pcs_length (toL s); unfold toL at this ⊢; rw [← size_eq] at this; omega
      clear B3
      refine loop_law rfl (by decide) (gf := 35) (lb := #[.pointer (some ⟨w.heap.size + 1 + 1 + 1, 0, none⟩)]) rfl trivial (enters_of Tryd.func35 (by kernel_rfl) rfl)
        inner (fun _ => rfl) (fun k h => by rw [SZ]; omega) (by rw [SZ]; omega)
        (fun pre A => ∃ v, Mid w pre A v)
        (fun c pre A => c = .goto 0 ∧ Out w pre A)
        (fun pre A B ⟨v, h⟩ ho => ⟨v, h.only ho (fun k hf => by rw [SZ] at hf; omega)⟩)
        (fun c pre A B h ho => ⟨h.1, h.2.only ho (fun k hf => by rw [SZ] at hf; omega)⟩)
        ⟨_, M0⟩
        (fun x => { tmps := #[.string s, undef, .pointer (some ⟨w.heap.size, 0, none⟩), .int .i64 0, .pointer (some ⟨w.heap.size + 1, 0, none⟩), .pointer (some ⟨w.heap.size + 1 + 1, 0, none⟩), .string x, .string s,
          .int .i64 0, .int .i64 0, .bool false, .string s, .func (.func 35) #[] #[.pointer (some ⟨w.heap.size + 1 + 1 + 1, 0, none⟩)], .string x, undef, undef, undef, undef, undef, undef, undef, undef, undef, undef, undef, undef, undef, undef, undef, undef, undef, undef, undef, undef, undef, undef, undef], defers := [] }) ?assign ?body ?done ?stop
      case assign =>
        intro l x A K hK
        gi_wp2
        exact hK
      case body =>
        rintro l pre x A ⟨v, hM⟩ hk hsz hl65
        by_cases hx : 16 < x.size
        · have hx' : (16 : Int) < (x.size : Int) := by omega
          have HM := Lib.hid hM
          have e5 := hM.errno.cell
          have f5 := hM.errno.frozen
          clear hM
          gi_wp2
          refine wpIn_goto ?_
          simp +zetaDelta only [Exit.then, Exit.inBlock]
          have o : Only (fun k => k = w.heap.size + 1 + 1) A (A.setCell ⟨w.heap.size + 1 + 1, 0, none⟩ (.int .i64 636)) := only_set _ _ _ _
          exact ⟨Stay.of_only o (fun k hk' => by rw [SZ] at hk'; omega), Stay.of_only o (fun k hk' => by omega), rfl, HM.out.found hx⟩
        · have hx' : (x.size : Int) ≤ 16 := by omega
          obtain ⟨z0, z1, z2⟩ := three_cells hM.path
          have f2 : A.frozen? ⟨w.heap.size + 1, 2, none⟩ = false := by simp [World.frozen?, show A.heap[w.heap.size + 1]? = _ from hM.path]
          have hrow := hM.row
          have hb12 : w.heap.size + 12 ≤ A.heap.size := by have := hk (w.heap.size + 11) (by omega); omega
          have HM := Lib.hid hM
          clear hM z0 z1
          obtain ⟨i0, hi, hz0, hz1, hz2⟩ := info_parts strInfo
          have HX := Lib.hid hx
          clear hx
          gi_wp2_with (gi_at_builtin; refine wpListIn_append_own _ rfl _ _ 27 rfl (w.heap.size + 12) 9 i0 (.string ⟨#[]⟩) 1 16 Tryd.underlying27 hi hz0 hz1 hz2 rfl (by decide) _ _ _ rfl (hrow.alloc _) ⟨A.heap.size, 0, none⟩ 1 1 [.string x] rfl rfl (cell_one_new _ _ _) (by simp [Value.oneCell']) (by unfold maxLen; omega) (by omega) (by rw [World.size_alloc]; omega) ?_; intro v' w1 hown' hgrow _; obtain ⟨g', cap', rfl⟩ := ownsRow_succ hown'; have hO : Only (fun k => w.heap.size + 12 ≤ k) A w1 := ((Only.refl _ A).alloc _).grown hgrow (fun k e => .inl (owns_ge hrow k e)); have hP : Pp (w.heap.size + 1) v w1 := HM.out.path.only hO (by omega); have c2 := (three_cells hP).2.2; have ff2 : w1.frozen? ⟨w.heap.size + 1, 2, none⟩ = false := by simp [World.frozen?, show w1.heap[w.heap.size + 1]? = _ from hP])
          exact ⟨(Stay.of_only hO (fun k hk' => by rw [SZ] at hk'; omega)).trans (Stay.of_only (only_set _ _ _ _) (fun k hk' => by rw [SZ] at hk'; omega)),
            (Stay.of_only hO (fun k hk' => by omega)).trans (Stay.of_only (only_set _ _ _ _) (fun k hk' => by omega)), _, HM.out.next HX.out hO hown'⟩
      case done =>
        rintro D xs A rfl hS ⟨v, hM⟩ hD
        obtain ⟨Ad, c, rfl, hown, hge⟩ := OwnR.of_own hM.row
        have hle : xs.length ≤ c := hown.2.1
        have hcel := hown.cel
        have hE : splitE (tl s) = 0 := by unfold splitE; rw [if_pos hw, ← show xs.map tl = ptsL (tl s) from hS, show longL (xs.map tl) = false from hM.short]; rfl
        have hN2 : xs.length ≤ 65 := by
          have h1 := congrArg List.length (show xs.map toL = ptsL (toL s) from hS)
          have h2 := full_le (pcs (toL s))
          rw [List.length_map] at h1
          unfold ptsL at h1
          omega
        obtain ⟨z0, z1, z2⟩ := three_cells hM.path
        have zf : ∀ k, A.frozen? ⟨w.heap.size + 1, k, none⟩ = false := fun k => by simp [World.frozen?, show A.heap[w.heap.size + 1]? = _ from hM.path]
        have f0 := zf 0
        have f1 := zf 1
        clear zf
        obtain ⟨y0, y1, y2⟩ := three_cells hM.zero
        have yf : ∀ k, A.frozen? ⟨w.heap.size, k, none⟩ = false := fun k => by simp [World.frozen?, show A.heap[w.heap.size]? = _ from hM.zero]
        have g0 := yf 0
        have g1 := yf 1
        have g2 := yf 2
        clear yf
        have hc2 : Cel (A.setCell ⟨w.heap.size + 1, 0, none⟩ (.bool (rootB (tl s)))) Ad (sv xs) := hcel.only (only_set _ _ _ _) (fun ad e _ => by have := hge ad e; omega)
        have HM := Lib.hid hM
        have HS := Lib.hid hS
        have HD := Lib.hid hD
        have HE := Lib.hid hE
        have HC := Lib.hid hcel
        have HC2 := Lib.hid hc2
        have HO := Lib.hid hown
        clear hM hS hD hE hcel hc2 hown
        simp only [Exit.inBlock]
        cases hLb : lastB (tl s) with
        | true =>
          gi_wp2_with (first
            | (refine ⟨trivial, ?_⟩; gi_at_call 26; refine (callsIn_wide.2 (Tryd.strings_HasPrefix s ⟨#[47]⟩ _)).mono ?_; rintro e w' ⟨rfl, hx⟩; rw [hx, show Lib.hasPrefix s.data.toList (⟨#[47]⟩ : ByteArray).data.toList = rootB (tl s) from rfl])
            | (refine ⟨trivial, ?_⟩; gi_at_call 27; refine (callsIn_wide.2 (Tryd.strings_HasSuffix s ⟨#[47]⟩ _ (by omega))).mono ?_; rintro e w' ⟨rfl, hx⟩; rw [hx, show Lib.hasSuffix s.data.toList (⟨#[47]⟩ : ByteArray).data.toList = lastB (tl s) from rfl, hLb])
            | (refine ⟨trivial, ?_⟩; gi_at_call 28; refine (callsIn_wide.2 (ends_calls Ad xs c _ HC2.out (by omega))).mono ?_; rintro e w' ⟨rfl, hx⟩; rw [hx]))
          refine ⟨trivial, ?_⟩
          gi_wp2
          simp +zetaDelta only [Exit.jump]
          obtain ⟨B, hB⟩ : ∃ B, (((((A.setCell ⟨w.heap.size + 1, 0, none⟩ (.bool (rootB (tl s)))).setCell ⟨w.heap.size + 1, 1, none⟩ (.bool true)).setCell ⟨w.heap.size, 0, none⟩ (.bool (rootB (tl s)))).setCell ⟨w.heap.size, 1, none⟩ (.bool true)).setCell ⟨w.heap.size, 2, none⟩ (.slice Ad xs.length c)) = B := ⟨_, rfl⟩
          obtain ⟨hl1, hl2⟩ := HM.out.laid _ _ hB
          rw [hB]
          have hDB : B.heap[w.heap.size + 4]? = some (.deferred (some [])) := (hl2.block _ (by have := (Array.getElem?_eq_some_iff.1 HD.out).1; rw [SZ] at this; omega) (by omega)).trans (SZ ▸ HD.out)
          have hl3 : (B.putObj (w.heap.size + 4) (.deferred none)).heap[w.heap.size]? = some (.cells #[.bool (rootB (tl s)), .bool true, .slice Ad xs.length c] 29 (0, 0)) := (World.putObj_heap_other (by omega)).trans hl1
          have hdir : dirB (tl s) = true := by unfold dirB; rw [hLb, Bool.true_or]
          refine ⟨by simp, .inl ⟨_, _, rfl, run_takeDeferred hDB, ?_⟩⟩
          refine ⟨_, results_row_tmp rfl _ _ w.heap.size #[.bool (rootB (tl s)), .bool true, .slice Ad xs.length c] (.int .i64 0) rfl rfl (run_loadVar_row (P := Tryd.prog) _ w.heap.size 29 29 _ (0, 0) _ hl3 Tryd.underlying29 rfl (by kernel_rfl)), xs, Ad, c,
            below_putObj (HM.out.below.trans (hl2.below HM.out.below.size (fun i hi => by omega))) (by omega) _, Cel.putObj (HC.out.only hl2 (fun ad e _ => by have := hge ad e; omega)) _ (fun ad e => by have := hge ad e; omega), hle, by omega, (fresh_own HO.out hge).mono (by omega), fun _ => ⟨HS.out, by rw [hdir]; rfl⟩, fun h => absurd HE.out h⟩
        | false =>
          gi_wp2_with (first
            | (refine ⟨trivial, ?_⟩; gi_at_call 26; refine (callsIn_wide.2 (Tryd.strings_HasPrefix s ⟨#[47]⟩ _)).mono ?_; rintro e w' ⟨rfl, hx⟩; rw [hx, show Lib.hasPrefix s.data.toList (⟨#[47]⟩ : ByteArray).data.toList = rootB (tl s) from rfl])
            | (refine ⟨trivial, ?_⟩; gi_at_call 27; refine (callsIn_wide.2 (Tryd.strings_HasSuffix s ⟨#[47]⟩ _ (by omega))).mono ?_; rintro e w' ⟨rfl, hx⟩; rw [hx, show Lib.hasSuffix s.data.toList (⟨#[47]⟩ : ByteArray).data.toList = lastB (tl s) from rfl, hLb])
            | (refine ⟨trivial, ?_⟩; gi_at_call 28; refine (callsIn_wide.2 (ends_calls Ad xs c _ HC2.out (by omega))).mono ?_; rintro e w' ⟨rfl, hx⟩; rw [hx]))
          simp +zetaDelta only [Exit.jump]
          obtain ⟨B, hB⟩ : ∃ B, (((((A.setCell ⟨w.heap.size + 1, 0, none⟩ (.bool (rootB (tl s)))).setCell ⟨w.heap.size + 1, 1, none⟩ (.bool (endsB (xs.map tl)))).setCell ⟨w.heap.size, 0, none⟩ (.bool (rootB (tl s)))).setCell ⟨w.heap.size, 1, none⟩ (.bool (endsB (xs.map tl)))).setCell ⟨w.heap.size, 2, none⟩ (.slice Ad xs.length c)) = B := ⟨_, rfl⟩
          obtain ⟨hl1, hl2⟩ := HM.out.laid _ _ hB
          rw [hB]
          have hDB : B.heap[w.heap.size + 4]? = some (.deferred (some [])) := (hl2.block _ (by have := (Array.getElem?_eq_some_iff.1 HD.out).1; rw [SZ] at this; omega) (by omega)).trans (SZ ▸ HD.out)
          have hl3 : (B.putObj (w.heap.size + 4) (.deferred none)).heap[w.heap.size]? = some (.cells #[.bool (rootB (tl s)), .bool (endsB (xs.map tl)), .slice Ad xs.length c] 29 (0, 0)) := (World.putObj_heap_other (by omega)).trans hl1
          have hdir : dirB (tl s) = (endsB (xs.map tl)) := by unfold dirB; rw [hLb, Bool.false_or, ← show xs.map tl = ptsL (tl s) from HS.out]
          refine ⟨by simp, .inl ⟨_, _, rfl, run_takeDeferred hDB, ?_⟩⟩
          refine ⟨_, results_row_tmp rfl _ _ w.heap.size #[.bool (rootB (tl s)), .bool (endsB (xs.map tl)), .slice Ad xs.length c] (.int .i64 0) rfl rfl (run_loadVar_row (P := Tryd.prog) _ w.heap.size 29 29 _ (0, 0) _ hl3 Tryd.underlying29 rfl (by kernel_rfl)), xs, Ad, c,
            below_putObj (HM.out.below.trans (hl2.below HM.out.below.size (fun i hi => by omega))) (by omega) _, Cel.putObj (HC.out.only hl2 (fun ad e _ => by have := hge ad e; omega)) _ (fun ad e => by have := hge ad e; omega), hle, by omega, (fresh_own HO.out hge).mono (by omega), fun _ => ⟨HS.out, by rw [hdir]; rfl⟩, fun h => absurd HE.out h⟩
      case stop =>
        rintro D c pre A rfl hSp ⟨rfl, hO⟩ hD
        refine wpIn_goto ?_
        have hE : splitE (tl s) = 636 := by unfold splitE; rw [if_pos hw, if_pos (long_prefix hSp hO.long)]
        simp +zetaDelta only [Exit.then, Exit.inBlock, Exit.jump]
        refine ⟨trivial, by rw [hE]; decide, _, _, _, _, _, _, _, _, _, _, _, _, _, _, _, _, _, _, _, _, _, _, _, _, _, _, _, _, _, _, _, rfl, .inr ⟨V.heap.size, by omega, rfl, hD⟩, ?_, hO.zero, hO.below⟩
        rw [hE]; exact hO.errno
    · have t1 : (wholeE s.data.toList != 0) = true := by rw [bne_iff_ne]; exact hw
      have hE : splitE (tl s) = wholeE s.data.toList := by unfold splitE; rw [if_neg hw]
      have HE := Lib.hid hE
      clear hE
      gi_wp2_with (refine ⟨trivial, ?_⟩; gi_at_call 24; refine (callsIn_wide.2 (whole_calls s _)).mono ?_; rintro e w' ⟨rfl, rfl⟩)
      refine wpIn_goto ?_
      simp +zetaDelta only [Exit.then, Exit.jump]
      refine ⟨trivial, by rw [HE.out]; exact hw, _, _, _, _, _, _, _, _, _, _, _, _, _, _, _, _, _, _, _, _, _, _, _, _, _, _, _, _, _, _, _, rfl, .inl rfl, ?_, ?_, ?_⟩
      · rw [HE.out]
        have := Boxed.new ((w.alloc (.cells #[.bool false, .bool false, .slice none 0 0] 29)).alloc (.cells #[.bool false, .bool false, .slice none 0 0] 29)) 23 (.int .i64 (wholeE s.data.toList))
        simpa using this
      · exact (Below.heap_alloc _ _ _ (by rw [World.size_alloc, World.size_alloc]; omega)).trans ((Below.heap_alloc _ _ _ (by rw [World.size_alloc]; omega)).trans (heap_alloc_new w _))
      · exact (((Below.refl _ _).alloc (Nat.le_refl _) _).alloc (by rw [World.size_alloc]; omega) _).alloc (by rw [World.size_alloc, World.size_alloc]; omega) _
end Go.Proofs.YtganpdplikbppaaDoor
