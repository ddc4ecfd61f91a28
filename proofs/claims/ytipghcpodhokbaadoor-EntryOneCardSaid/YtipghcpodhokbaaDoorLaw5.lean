/- EntryTurned: whatever it is called with, it hands back true; nothing that was there has turned. -/
import Derived.Test.YtipghcpodhokbaaDoorLaw4
import Derived.Test.YtipghcpodhokbaaDoorTurnS
import Derived.Laws.BitsAllLaws
set_option linter.unusedSimpArgs false
set_option linter.unusedVariables false
namespace Go.Proofs.YtipghcpodhokbaaDoor
open Go.RowKit WordMath SumMath
theorem flip_bit (x b : Nat) (hx : x < 18446744073709551616) (hb : b < 64) : bits .xor .u64 (x : Int) (IntKind.u64.wrap ((2 : Int) ^ b)) = ((x ^^^ 2 ^ b : Nat) : Int) := by
  have h : 2 ^ b < 18446744073709551616 := by
    have := Nat.pow_lt_pow_right (a := 2) (by decide) hb
    simpa using this
  have e : IntKind.u64.wrap ((2 : Int) ^ b) = ((2 ^ b : Nat) : Int) := by
    have e2 : ((2 : Int) ^ b) = ((2 ^ b : Nat) : Int) := by simp
    rw [e2, IntKind.wrap_u64]; exact Int.emod_eq_of_lt (Int.natCast_nonneg _) (Int.ofNat_lt.2 h)
  rw [e, u64_xor_nat _ _ hx h]
theorem Two.set {w0 w : World} {b : Nat} {x : Slt} {P I B : Int} (h : Two w0 w b x P I B) {p : Addr} (hp : b + 1 < p.block) (h0 : w0.heap.size ≤ p.block) (v : Value) : Two w0 (w.setCell p v) b x P I B :=
  ⟨Below.setCell h.on h0 v, Ob.setCell h.slo p v (by omega), Ob.setCell h.geo p v (by omega)⟩
set_option maxRecDepth 100000 in
set_option maxHeartbeats 2000000 in
theorem eturned_none (s : Slt) (P I B at_ t : Int) (w : World) (hl : 200 < s.S.size ∨ isZ s = true ∨ mayB s P I B = false) (hT : TabAt w) (hE : ErrAt w) :
    Calls Tryd.prog 6 #[s.v, gv P I B, .int .u8 at_, .int .u32 t] w fun e w' => e = .returned (.bool true) ∧ On w w' := by
  have T := Lib.hid (Two.new w s P I B)
  have HT := Lib.hid hT
  have HE := Lib.hid hE
  clear hT hE
  go_enter Tryd.func6, Tryd.ntmps6
  go_upto_region 1 with (fail)
  generalize (w.alloc (.cells s.c 23)).alloc (.cells #[.int .i64 P, .int .i64 I, .int .i64 B] 28) = W at *
  obtain ⟨s0, s1, s2⟩ := Sb.cells T.out.slo
  have hls := Ob.lt T.out.slo
  by_cases hs : 200 < s.S.size
  · clear hl
    go_wp2_with (fail)
    clear s0 s1 s2 hls
    refine (alive_calls _ (HT.out.below T.out.on) (HE.out.below T.out.on)).mono ?_
    rintro e u9 ⟨rfl, hb⟩
    have b9 := T.out.on.trans hb
    clear T hb
    go_wp2_with (fail)
    go_ret
    exact ⟨rfl, b9⟩
  · have hd : decide (200 < (s.S.size : Int)) = false := by rw [decide_eq_false_iff_not]; omega
    cases hz : isZ s with
    | true =>
      have hq := fun W => eqZ hz W
      clear hl hz hs
      go_wp2_with (first | (refine wpList_load_rowW rfl 23 (.tmp 4) rfl w.heap.size rfl 23 s.c (0, 0) _ T.out.slo Tryd.underlying23 rfl (by kernel_rfl) ?_) | (refine wpList_load_rowW rfl 28 (.tmp 5) rfl (w.heap.size + 1) rfl 28 #[.int .i64 P, .int .i64 I, .int .i64 B] (0, 0) _ T.out.geo Tryd.underlying28 rfl (by kernel_rfl) ?_))
      clear s0 s1 s2 hls hq hd
      refine (alive_calls _ (HT.out.below T.out.on) (HE.out.below T.out.on)).mono ?_
      rintro e u9 ⟨rfl, hb⟩
      have b9 := T.out.on.trans hb
      clear T hb
      go_wp2_with (fail)
      go_ret
      exact ⟨rfl, b9⟩
    | false =>
      have hq := fun W => eqZ hz W
      have hm : mayB s P I B = false := by
        rcases hl with h | h | h
        · exact absurd h hs
        · rw [hz] at h; cases h
        · exact h
      have HEN := Lib.hid (fun W => encode_bad s P I B W hm)
      clear hl hz hs hm
      go_wp2_with (first | (refine wpList_load_rowW rfl 23 (.tmp 4) rfl w.heap.size rfl 23 s.c (0, 0) _ T.out.slo Tryd.underlying23 rfl (by kernel_rfl) ?_) | (refine wpList_load_rowW rfl 28 (.tmp 5) rfl (w.heap.size + 1) rfl 28 #[.int .i64 P, .int .i64 I, .int .i64 B] (0, 0) _ T.out.geo Tryd.underlying28 rfl (by kernel_rfl) ?_))
      clear s0 s1 s2 hls hq hd
      refine (HEN.out _).mono ?_
      rintro e w1 ⟨rfl, hb⟩
      replace T := Lib.hid (T.out.on' hb)
      clear hb HEN
      go_wp2_with (fail)
      refine (alive_calls _ (HT.out.below T.out.on) (HE.out.below T.out.on)).mono ?_
      rintro e u9 ⟨rfl, hb⟩
      have b9 := T.out.on.trans hb
      clear T hb
      go_wp2_with (fail)
      go_ret
      exact ⟨rfl, b9⟩
set_option maxRecDepth 100000 in
set_option maxHeartbeats 4000000 in
theorem eturned_go (s : Slt) (P I B : Int) (p t : Nat) (w : World) (hs : s.S.size ≤ 200) (hz : isZ s = false) (hm : mayB s P I B = true) (hp : p < 256) (ht : t < 4294967296) (hT : TabAt w) (hE : ErrAt w) :
    Calls Tryd.prog 6 #[s.v, gv P I B, .int .u8 (p : Nat), .int .u32 (t : Nat)] w fun e w' => e = .returned (.bool true) ∧ On w w' := by
  have T := Lib.hid (Two.new w s P I B)
  have HT := Lib.hid hT
  have HE := Lib.hid hE
  have hen := fun W hW => encode_ok s P I B W hm hW
  have htb := fun k Y (hk : k ≤ 160) (h : Turned (slW s) k t 32 Y) => turned_slot hm hz hk ht h
  have hwd : Wd (slW s) := by
    unfold mayB at hm
    simp only [Bool.and_eq_true, decide_eq_true_eq] at hm
    exact slW_wd (okS_fit hm.2 hm.1.2.1.2)
  have hlen := slW_length s
  have heq : ∀ W, (Op.equalIn 10000 23 (.agg s.c) (.agg s.c)).run Tryd.prog W = .ok true W := fun W => by
    have h := eqS s.I s.K s.S s.I s.K s.S W
    rwa [sameS_self] at h
  have hq := fun W => eqZ hz W
  generalize slW s = l at *
  have HEN := Lib.hid hen
  have HTB := Lib.hid htb
  have HWD := Lib.hid hwd
  have HLN := Lib.hid hlen
  have HEQ := Lib.hid heq
  have hd : decide (200 < (s.S.size : Int)) = false := by rw [decide_eq_false_iff_not]; omega
  clear hT hE hen htb hwd hlen heq hs hz hm
  go_enter Tryd.func6, Tryd.ntmps6
  go_upto_region 1 with (fail)
  generalize (w.alloc (.cells s.c 23)).alloc (.cells #[.int .i64 P, .int .i64 I, .int .i64 B] 28) = W at *
  obtain ⟨s0, s1, s2⟩ := Sb.cells T.out.slo
  have hls := Ob.lt T.out.slo
  go_wp2_with (first | (refine wpList_load_rowW rfl 23 (.tmp 4) rfl w.heap.size rfl 23 s.c (0, 0) _ T.out.slo Tryd.underlying23 rfl (by kernel_rfl) ?_) | (refine wpList_load_rowW rfl 28 (.tmp 5) rfl (w.heap.size + 1) rfl 28 #[.int .i64 P, .int .i64 I, .int .i64 B] (0, 0) _ T.out.geo Tryd.underlying28 rfl (by kernel_rfl) ?_))
  clear s0 s1 s2 hls hq hd
  refine (HEN.out _ (HT.out.below T.out.on)).mono ?_
  rintro e w1 ⟨g, rfl, hI, hge, hb⟩
  have hgw : w.heap.size + 1 < g := Nat.lt_of_lt_of_le (Ob.lt T.out.geo) hge
  have HG := Lib.hid hgw
  replace T := Lib.hid (T.out.on' hb)
  have HBK := Lib.hid hI
  clear hb HEN hI hge hgw
  obtain ⟨k, hk, hk2⟩ : ∃ k : Nat, (p : Int).tmod 161 = (k : Int) ∧ k ≤ 160 := ⟨p % 161, by rw [Int.tmod_eq_emod_of_nonneg (by omega)]; simp, by omega⟩
  have hk' : (p : Int) % 161 = (k : Int) := by rw [← hk, Int.tmod_eq_emod_of_nonneg (by omega)]
  have hwr : wrap64 (p : Int) = (p : Int) := by unfold wrap64; omega
  have HK := Lib.hid hk
  have HK' := Lib.hid hk'
  clear hk hk'
  go_upto_region 9 with (fail)
  try rw [HK.out]
  try rw [HK'.out]
  go_wp2_with (fail)
  go_loopw [12] (fun i wr => ∃ (j : Nat) (Y : List Nat), i = .int .i64 j ∧ j ≤ 32 ∧ Turned l k t j Y ∧ Blk 68 wr g Y ∧ Two w wr w.heap.size s P I B) (fun i _ => 32 - (intOf i).toNat)
  case atStart => exact ⟨0, _, rfl, by omega, Turned.zero HWD.out k t, HBK.out, T.out⟩
  case round =>
    clear T HBK
    obtain ⟨j, Y, rfl, hj, hTu, hBk, hTwo⟩ := hrel
    have hlen2 := hTu.len
    rw [HLN.out] at hlen2
    have T := Lib.hid hTwo
    clear hTwo
    by_cases hj32 : j < 32
    · by_cases hbit : t / 2 ^ j % 2 = 1
      · have hI : (k + j) / 64 < Y.length := by omega
        have hI8 : (k + j) / 64 < 3 := by omega
        have hI8' : ((k : Int) + (j : Int)) / 64 < 3 := by omega
        have hcl := hBk.cell _ hI
        have hfz := hBk.frozen ((k + j) / 64)
        have hwd := hTu.wd ((k + j) / 64)
        have ht2 := Lib.hid (hTu.turn hbit (by rw [HLN.out]; omega))
        have hset := Lib.hid (hBk.set ((k + j) / 64) (Y.getD ((k + j) / 64) 0 ^^^ 2 ^ ((k + j) % 64)))
        have hb1 : (((t : Int) / 2 ^ j).tmod 2 == 1) = true := by
          rw [beq_iff_eq]
          have : ((t : Int) / 2 ^ j) = ((t / 2 ^ j : Nat) : Int) := by simp
          rw [this, Int.tmod_eq_emod_of_nonneg (Int.natCast_nonneg _)]; omega
        clear hbit hI hlen2
        generalize Y.getD ((k + j) / 64) 0 = xv at *
        go_wp2_with (fail)
        go_roundw
        case rel =>
          rw [flip_bit xv _ hwd (Nat.mod_lt _ (by decide))]
          exact ⟨j + 1, _, by go_num, by omega, ht2.out, hset.out, T.out.set (p := ⟨g, (k + j) / 64, none⟩) HG.out (by have := HG.out; show _ ≤ g; omega) _⟩
        case measure => simp [intOf]; omega
      · have ht2 := hTu.skip hbit
        have hb1 : (((t : Int) / 2 ^ j).tmod 2 == 1) = false := by
          rw [beq_eq_false_iff_ne]
          have : ((t : Int) / 2 ^ j) = ((t / 2 ^ j : Nat) : Int) := by simp
          rw [this, Int.tmod_eq_emod_of_nonneg (Int.natCast_nonneg _)]; omega
        clear hbit hlen2
        go_wp2_with (fail)
        go_roundw
        case rel => exact ⟨j + 1, _, by go_num, by omega, ht2, hBk, T.out⟩
        case measure => simp [intOf]; omega
    · obtain rfl : j = 32 := by omega
      have htb := HTB.out k Y hk2 hTu
      have HYL := Lib.hid hlen2
      have hdy := fun A c W (hr : Row W A Y) (hc : Y.length ≤ c) (hT : TabAt W) => dec_calls A Y c P I B W hr hTu.wd hc hT
      have hone : (decBad Y P I B = none ∧ errV (decBad Y P I B) = .nilIface) ∨ (decBad Y P I B ≠ none ∧ ∃ n, errV (decBad Y P I B) = misV 0 n slotT) := by
        cases decBad Y P I B with
        | none => exact .inl ⟨rfl, rfl⟩
        | some n => exact .inr ⟨by simp, n, rfl⟩
      generalize decV Y P I B = xx at *
      generalize decBad Y P I B = bd at *
      generalize errV bd = ev at *
      have HDY := Lib.hid hdy
      have HON := Lib.hid hone
      have HTY := Lib.hid htb
      have HBK := Lib.hid hBk
      clear htb hlen2 hdy hone hTu hBk hj hj32
      go_upto_region 14 with (fail)
      refine wp_region6 23 xx.c (fun k => decide (k < 6) || decide (k = 7)) (fun k => decide (k = 8)) 8 [.val (.slice (some ⟨g, 0, none⟩) 3 3), .row Y, .val (gv P I B), .val (.tuple #[xx.v, ev]), .val (.tuple #[xx.v, ev]), .val xx.v, .val ev, .var, .done 7, .val ev]
        (by kernel_rfl) (by kernel_rfl) (by kernel_rfl) (by kernel_rfl) (by kernel_rfl) (by kernel_rfl) ?steps14 ?rest14
      case steps14 =>
        refine ⟨?t0, ?t1, ?t2, ?t3, ?t4, ?t5, ?t6, ?t7, ?t8, ?t9, trivial⟩
        case t0 =>
          exact st6_val _ 76 rfl rfl rfl rfl fun a u hb hA hd => by
            have q0 := ev_of (show a.eval (.tmp 9) = .slice (some ⟨g, 0, none⟩) 3 3 from hA.eval 9 rfl)
            unfold execOp
            simp [go_sem, q0]
        case t1 =>
          exact st6_clone Y 77 rfl rfl rfl rfl (.const (.slice none 0 0)) (.tmp 76) rfl (some ⟨g, 0, none⟩) 3 (by rw [HYL.out]; decide) rfl fun a u hb hA hd => ⟨rfl, by rw [HYL.out]; exact hd 0 76 rfl rfl _ rfl, HBK.out.row.below hb⟩
        case t2 =>
          exact st6_val _ 78 rfl rfl rfl rfl fun a u hb hA hd => run_loadG rfl (w.heap.size + 1) _ _ _ (hA.eval 5 rfl) (Ob.on T.out.geo hb)
        case t3 =>
          refine st6_rcall _ 79 rfl rfl rfl rfl rfl 1 77 Y rfl rfl rfl 21 (fun r => #[r, gv P I B]) fun a u A c hb hA hd hv hc hr => ⟨?_, HDY.out A c u hr hc (HT.out.below (T.out.on.trans hb))⟩
          have q0 := ev_of (hd 2 78 rfl rfl _ rfl)
          unfold execOp
          have hv := ev_of hv
          simp [go_sem, q0, hv]
        case t4 =>
          exact st6_val _ 75 rfl rfl rfl rfl fun a u hb hA hd => by
            have q0 := ev_of (hd 3 79 rfl rfl _ rfl)
            unfold execOp
            simp [go_sem, q0]
        case t5 =>
          exact st6_val _ 80 rfl rfl rfl rfl fun a u hb hA hd => by
            have q0 := ev_of (hd 4 75 rfl rfl _ rfl)
            unfold execOp
            simp [go_sem, q0, Instr.extract]
        case t6 =>
          exact st6_val _ 81 rfl rfl rfl rfl fun a u hb hA hd => by
            have q0 := ev_of (hd 4 75 rfl rfl _ rfl)
            unfold execOp
            simp [go_sem, q0, Instr.extract]
        case t7 =>
          exact st6_var 13 rfl rfl rfl rfl #[.int .i64 0, .int .u8 0, .string ⟨#[]⟩] rfl fun a u => by unfold execOp; kernel_rfl
        case t8 =>
          exact st6_store 7 5 13 80 rfl rfl rfl rfl (by decide) (Slt.one _) (by kernel_rfl) rfl rfl rfl rfl rfl rfl
        case t9 =>
          exact st6_val _ 14 rfl rfl rfl rfl fun a u hb hA hd => by
            have q0 := ev_of (hd 6 81 rfl rfl _ rfl)
            unfold execOp
            simp [go_sem, q0]
      case rest14 =>
        intro vs u hb hR
        have e9 := hR 9 (by decide)
        replace e9 : vs 9 = ev := e9
        obtain ⟨gx, e7, hgx, hx⟩ := hR 8 (by decide)
        replace hx : Sb u gx xx := hx
        have X := Lib.hid hx
        have hBu : Blk 68 u g Y := (Below.block hb g HBK.out.lt).trans HBK.out
        replace T := Lib.hid (T.out.on' hb)
        simp only [putsFrom, Act.put, List.setIfInBounds_toArray, List.set_cons_succ, List.set_cons_zero, e7, e9]
        generalize vs 0 = z0
        generalize vs 1 = z1
        generalize vs 2 = z2
        generalize vs 3 = z3
        generalize vs 4 = z4
        generalize vs 5 = z5
        generalize vs 6 = z6
        generalize vs 8 = z8
        clear hR e7 e9 hb hx hgx HBK HDY
        have HBU := Lib.hid hBu
        clear hBu
        by_cases h0 : t = 0
        · obtain ⟨rfl, hxs⟩ := HTY.out.1 h0
          rw [hxs] at X
          subst h0
          clear hxs
          obtain ⟨_, rfl⟩ | ⟨hx, _⟩ := HON.out
          case inr => exact absurd rfl hx
          have hq := HEQ.out
          clear HTY HON HBU
          go_wp2_with (first | (refine wpList_load_rowW rfl 23 (.tmp 13) rfl gx rfl 23 s.c (0, 0) _ X.out Tryd.underlying23 rfl (by kernel_rfl) ?_) | (refine wpList_load_rowW rfl 23 (.tmp 4) rfl w.heap.size rfl 23 s.c (0, 0) _ T.out.slo Tryd.underlying23 rfl (by kernel_rfl) ?_))
          clear hq
          refine (alive_calls _ (HT.out.below T.out.on) (HE.out.below T.out.on)).mono ?_
          rintro e u9 ⟨rfl, hb⟩
          have b9 := T.out.on.trans hb
          clear T hb
          go_wp2_with (fail)
          go_ret
          exact ⟨rfl, b9⟩
        · have hte : ((t : Int) == 0) = false := by rw [beq_eq_false_iff_ne]; omega
          obtain ⟨rfl, rfl⟩ | ⟨_, n, rfl⟩ := HON.out
          · obtain ⟨rfl, rfl⟩ := HTY.out.2 h0 rfl
            have hq : ∀ W, (Op.equalIn 10000 23 (.agg zS.c) (.agg #[.int .i64 0, .int .u8 0, .string ⟨#[]⟩])).run Tryd.prog W = .ok true W := fun W => eqZ (x := zS) rfl W
            have c0 := HBU.out.cell 0 (by decide)
            have c1 := HBU.out.cell 1 (by decide)
            have c2 := HBU.out.cell 2 (by decide)
            have hlt := HBU.out.lt
            clear HTY HON HBU h0
            simp only [List.getD_cons_zero, List.getD_cons_succ] at c0 c1 c2
            go_wp2_with (refine wpList_load_rowW rfl 23 (.tmp 13) rfl gx rfl 23 zS.c (0, 0) _ X.out Tryd.underlying23 rfl (by kernel_rfl) ?_)
            clear hq c0 c1 c2 hlt hte
            refine (alive_calls _ (HT.out.below T.out.on) (HE.out.below T.out.on)).mono ?_
            rintro e u9 ⟨rfl, hb⟩
            have b9 := T.out.on.trans hb
            clear T hb
            go_wp2_with (fail)
            go_ret
            exact ⟨rfl, b9⟩
          · clear HTY HON HBU h0
            go_wp2_with (fail)
            clear hte
            refine (alive_calls _ (HT.out.below T.out.on) (HE.out.below T.out.on)).mono ?_
            rintro e u9 ⟨rfl, hb⟩
            have b9 := T.out.on.trans hb
            clear T hb
            go_wp2_with (fail)
            go_ret
            exact ⟨rfl, b9⟩
theorem eturned_calls (s : Slt) (P I B : Int) (p t : Int) (w : World) (p0 : 0 ≤ p) (p1 : p < 256) (t0 : 0 ≤ t) (t1 : t < 4294967296) (hT : TabAt w) (hE : ErrAt w) :
    Calls Tryd.prog 6 #[s.v, gv P I B, .int .u8 p, .int .u32 t] w fun e w' => e = .returned (.bool true) ∧ On w w' := by
  by_cases h : 200 < s.S.size ∨ isZ s = true ∨ mayB s P I B = false
  · exact eturned_none s P I B p t w h hT hE
  · obtain ⟨p, rfl⟩ := Int.eq_ofNat_of_zero_le p0
    obtain ⟨t, rfl⟩ := Int.eq_ofNat_of_zero_le t0
    refine eturned_go s P I B p t w (by omega) ?_ ?_ (by omega) (by omega) hT hE
    · cases hz : isZ s
      · rfl
      · exact absurd (.inr (.inl hz)) h
    · cases hm : mayB s P I B
      · exact absurd (.inr (.inr hm)) h
      · rfl
end Go.Proofs.YtipghcpodhokbaaDoor
