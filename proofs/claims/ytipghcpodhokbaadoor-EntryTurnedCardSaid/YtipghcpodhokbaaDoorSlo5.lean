/- Encode and Decode of slots. -/
import Derived.Test.YtipghcpodhokbaaDoorSlo4
import Derived.Laws.StructEq
set_option linter.unusedSimpArgs false
set_option linter.unusedVariables false
namespace Go.Proofs.YtipghcpodhokbaaDoor
open Go.RowKit WordMath SumMath
theorem list3 {l : List Nat} (h : l.length = 3) : ∃ a b c, l = [a, b, c] := by
  match l, h with
  | [a, b, c], _ => exact ⟨a, b, c, rfl⟩
/-! ### Encode -/
set_option maxRecDepth 100000 in
set_option maxHeartbeats 1000000 in
theorem encode_ok (x : Slt) (P I B : Int) (w : World) (hm : mayB x P I B = true) (hT : TabAt w) :
    Calls Tryd.prog 10 #[x.v, gv P I B] w fun e w' => ∃ g, e = .returned (.tuple #[.slice (some ⟨g, 0, none⟩) 3 3, .int .i64 0]) ∧ Im w' g (slW x) ∧ w.heap.size ≤ g ∧ On w w' := by
  have hM := fun W => emay_calls x P I B W
  rw [hm] at hM
  unfold mayB at hm
  simp only [Bool.and_eq_true, decide_eq_true_eq] at hm
  obtain ⟨hg, ho⟩ := hm
  obtain ⟨a, b, c, he⟩ := list3 (slW_length x)
  have hW : ∀ W, TabAt W → Calls Tryd.prog 27 #[x.v] W fun e w' => e = .returned (.agg #[.int .u64 (a : Nat), .int .u64 (b : Nat), .int .u64 (c : Nat)]) ∧ On W w' := fun W hT => by
    have h := written_calls x W I (by unfold GOK at hg; omega) ho hT
    rw [he] at h
    exact h
  rw [he]
  have HM := Lib.hid hM
  have HW := Lib.hid hW
  have HT := Lib.hid hT
  have T0 := Lib.hid (Two.new w x P I B)
  clear hM hg ho hW he hT
  go_enter Tryd.func10, Tryd.ntmps10
  go_wp2_with (fail)
  refine (HM.out _).mono ?_
  rintro e w1 ⟨rfl, hb⟩
  have t1 := T0.out.on' hb
  obtain ⟨x0, x1, x2⟩ := t1.slo.cells
  have l1 := t1.slo.lt
  have hT1 := HT.out.below t1.on
  have hon := t1.on
  clear T0 hb t1 HM HT
  go_wp2_with (fail)
  refine (HW.out _ hT1).mono ?_
  rintro e w2 ⟨rfl, hb2⟩
  have b2 := hon.trans hb2
  clear hb2 hon x0 x1 x2 l1 hT1 HW
  have hI : Im (w2.alloc (.cells #[.int .u64 (a : Nat), .int .u64 (b : Nat), .int .u64 (c : Nat)] 68)) w2.heap.size [a, b, c] := heap_alloc_new w2 _
  have HI := Lib.hid hI
  clear hI
  go_wp2_with (fail)
  go_ret2
  exact ⟨w2.heap.size, rfl, HI.out, Below.size b2, b2.trans (on_alloc _ _)⟩
theorem encode_bad (x : Slt) (P I B : Int) (w : World) (hm : mayB x P I B = false) :
    Calls Tryd.prog 10 #[x.v, gv P I B] w fun e w' => e = .returned (.tuple #[.slice none 0 0, .int .i64 2]) ∧ On w w' := by
  have hM := fun W => emay_calls x P I B W
  rw [hm] at hM
  have HM := Lib.hid hM
  have T0 := Lib.hid (Two.new w x P I B)
  clear hM hm
  go_enter Tryd.func10, Tryd.ntmps10
  go_wp2_with (fail)
  refine (HM.out _).mono ?_
  rintro e w1 ⟨rfl, hb⟩
  have t1 := T0.out.on.trans hb
  clear T0 hb
  go_wp2_with (fail)
  go_ret2
  exact ⟨rfl, t1⟩
/-! ### Decode -/
set_option maxRecDepth 100000 in
theorem eq3_in (d : Nat) (a0 a1 a2 b0 b1 b2 : Int) (w : World) :
    (Op.equalIn (d + 2) 68 (.agg #[.int .u64 a0, .int .u64 a1, .int .u64 a2]) (.agg #[.int .u64 b0, .int .u64 b1, .int .u64 b2])).run Tryd.prog w = .ok (a0 == b0 && (a1 == b1 && a2 == b2)) w := by
  have u3 := Tryd.underlying36
  have a3' := Tryd.isAgg36
  have z3 := Tryd.sizeOf36
  rw [show d + 2 = (d + 1) + 1 from rfl, Op.equalIn]
  simp only [Sem.run_bind, run_underlying Tryd.underlying68, Result.andThen_ok]
  simp only [Std.Legacy.Range.forIn_eq_forIn_range', Std.Legacy.Range.size, Nat.sub_zero, Nat.add_sub_cancel, Nat.div_one, List.range'_succ, List.range'_zero, List.forIn_cons, List.forIn_nil]
  go_simp
  by_cases h0 : a0 = b0 <;> by_cases h1 : a1 = b1 <;> by_cases h2 : a2 = b2 <;> simp [h0, h1, h2]
/-- What is told of words that are no slot. -/
def decBad (l : List Nat) (P I B : Int) : Option Int := if ¬ GOK P I B then some 2 else if decOk l I = true then none else some 7
/-- The slot that Decode hands back. -/
def decV (l : List Nat) (P I B : Int) : Slt := if decBad l P I B = none then rdS l else zS
/-- Its error. -/
def errV (o : Option Int) : Value := match o with
  | none => .nilIface
  | some n => misV 0 n slotT
/-- A geometry's block, a slot's behind it. -/
structure De (w0 w : World) (P I B : Int) : Prop where
  on : On w0 w
  geo : Gb w w0.heap.size P I B
  res : Sb w (w0.heap.size + 1) zS
theorem De.on' {w0 w w' : World} {P I B : Int} (h : De w0 w P I B) (hb : On w w') : De w0 w' P I B := ⟨h.on.trans hb, Ob.on h.geo hb, Ob.on h.res hb⟩
theorem De.new (w : World) (P I B : Int) : De w ((w.alloc (.cells #[.int .i64 P, .int .i64 I, .int .i64 B] 28)).alloc (.cells #[.int .i64 0, .int .u8 0, .string ⟨#[]⟩] 23)) P I B :=
  ⟨on_two _ _ _, (Ob.new w _).alloc _, by
    have h := Ob.new (w.alloc (.cells #[.int .i64 P, .int .i64 I, .int .i64 B] 28)) (.cells #[.int .i64 0, .int .u8 0, .string ⟨#[]⟩] 23)
    rw [World.size_alloc] at h
    exact h⟩
theorem Sb.same {w : World} {b : Nat} {x : Slt} (h : Sb w b x) (k : Nat) (v : Value) (hv : x.c[k]? = some v) : w.setCell ⟨b, k, none⟩ v = w := by
  have e : (w.setCell ⟨b, k, none⟩ v).heap = w.heap := by
    apply Array.ext
    · simp
    · intro i h1 h2
      simp only [World.setCell, Array.getElem_modify]
      by_cases hi : b = i
      · subst hi
        have hh : w.heap[b] = .cells x.c 23 (0, 0) := by
          unfold Sb Ob at h
          rw [Array.getElem?_eq_getElem h2] at h
          exact Option.some.inj h
        have hs : x.c.setIfInBounds k v = x.c := by
          apply Array.ext
          · simp
          · intro j j1 j2
            by_cases hj : k = j
            · subst hj
              rw [Array.getElem?_eq_getElem j2] at hv
              rw [Array.getElem_setIfInBounds j2, if_pos rfl]
              exact (Option.some.inj hv).symm
            · rw [Array.getElem_setIfInBounds, if_neg hj]
        simp [hh, hs]
      · rw [if_neg hi]
  show ({ w with heap := (w.setCell ⟨b, k, none⟩ v).heap } : World) = w
  rw [e]
set_option maxRecDepth 100000 in
set_option maxHeartbeats 1000000 in
theorem dec_geom (A : Option Addr) (n c : Nat) (P I B : Int) (w : World) (hg : ¬ GOK P I B) :
    Calls Tryd.prog 21 #[.slice A n c, gv P I B] w fun e w' => e = .returned (.tuple #[zS.v, misV 0 2 slotT]) ∧ On w w' := by
  have HG := Lib.hid hg
  have D0 := Lib.hid (De.new w P I B)
  clear hg
  go_enter Tryd.func21, Tryd.ntmps21
  go_wp2_with (fail)
  refine (check_bad P I B _ HG.out).mono ?_
  rintro e w1 ⟨rfl, hb⟩
  have d1 := D0.out.on' hb
  obtain ⟨z0, z1, z2⟩ := Sb.cells d1.res
  have s0 := Sb.same d1.res 0 (.int .i64 0) rfl
  have s1 := Sb.same d1.res 1 (.int .u8 0) rfl
  have s2 := Sb.same d1.res 2 (.string ⟨#[]⟩) rfl
  have fz : ∀ k, w1.frozen? ⟨w.heap.size + 1, k, none⟩ = false := fun k => by have h := d1.res; unfold Sb Ob at h; simp [World.frozen?, h]
  have hl := Ob.lt d1.res
  have hon := d1.on
  clear D0 hb d1
  go_wp2_with (fail)
  refine (noSlot_calls _ _).mono ?_
  rintro e w2 ⟨rfl, rfl⟩
  go_wp2_with (fail)
  exact bodyPost_ret (v := .tuple #[zS.v, misV 0 2 slotT]) (by simp [results, Tryd.results21, go_sem, z0, z1, z2, zS]) rfl ⟨rfl, hon⟩
set_option maxRecDepth 100000 in
set_option maxHeartbeats 1000000 in
theorem dec_len (A : Option Addr) (n c : Nat) (P I B : Int) (w : World) (hg : GOK P I B) (hn : n ≠ 3) :
    Calls Tryd.prog 21 #[.slice A n c, gv P I B] w fun e w' => e = .returned (.tuple #[zS.v, misV 0 7 slotT]) ∧ On w w' := by
  have HG := Lib.hid hg
  have D0 := Lib.hid (De.new w P I B)
  have hne : ((n : Int) == 3) = false := by rw [beq_eq_false_iff_ne]; omega
  have hne2 : ((n : Int) != 3) = true := by unfold bne; rw [hne]; rfl
  clear hg hn
  go_enter Tryd.func21, Tryd.ntmps21
  go_wp2_with (fail)
  refine (check_ok P I B _ HG.out).mono ?_
  rintro e w1 ⟨rfl, hb⟩
  have d1 := D0.out.on' hb
  obtain ⟨z0, z1, z2⟩ := Sb.cells d1.res
  have s0 := Sb.same d1.res 0 (.int .i64 0) rfl
  have s1 := Sb.same d1.res 1 (.int .u8 0) rfl
  have s2 := Sb.same d1.res 2 (.string ⟨#[]⟩) rfl
  have fz : ∀ k, w1.frozen? ⟨w.heap.size + 1, k, none⟩ = false := fun k => by have h := d1.res; unfold Sb Ob at h; simp [World.frozen?, h]
  have hl := Ob.lt d1.res
  have hon := d1.on
  clear D0 hb d1
  go_wp2_with (fail)
  refine (noSlot_calls _ _).mono ?_
  rintro e w2 ⟨rfl, rfl⟩
  go_wp2_with (fail)
  exact bodyPost_ret (v := .tuple #[zS.v, misV 0 7 slotT]) (by simp [results, Tryd.results21, go_sem, z0, z1, z2, zS]) rfl ⟨rfl, hon⟩
theorem spot_none {w : World} {b off : Nat} {sp : Option Nat} {v : Value} (h : w.cell? ⟨b, off, sp⟩ = some v) : sp = none := by
  cases sp with
  | none => rfl
  | some k =>
    exfalso
    unfold World.cell? at h
    split at h
    · simp at h
    · cases h
set_option maxRecDepth 100000 in
set_option maxHeartbeats 4000000 in
theorem dec_rest (A : Option Addr) (l0 l1 l2 : Nat) (c : Nat) (P I B : Int) (w : World) (x : Slt) (hx : rdS [l0, l1, l2] = x) (hg : GOK P I B) (hr : Row w A [l0, l1, l2]) (hl : Wd [l0, l1, l2]) (hcap : 3 ≤ c) (hT : TabAt w) :
    Calls Tryd.prog 21 #[.slice A 3 c, gv P I B] w fun e w' => e = .returned (.tuple #[(if okS x I = true ∧ slW x = [l0, l1, l2] then x else zS).v, if okS x I = true ∧ slW x = [l0, l1, l2] then .nilIface else misV 0 7 slotT]) ∧ On w w' := by
  have hR : ∀ W, Calls Tryd.prog 37 #[.agg #[.int .u64 (l0 : Nat), .int .u64 (l1 : Nat), .int .u64 (l2 : Nat)]] W fun e w' => e = .returned x.v ∧ On W w' := fun W => by rw [← hx]; exact read_calls [l0, l1, l2] W hl rfl
  obtain ⟨v, hv⟩ : ∃ v, v = (if okS x I = true ∧ slW x = [l0, l1, l2] then x else zS) := ⟨_, rfl⟩
  obtain ⟨er, her⟩ : ∃ er, er = (if okS x I = true ∧ slW x = [l0, l1, l2] then Value.nilIface else misV 0 7 slotT) := ⟨_, rfl⟩
  rw [← hv, ← her]
  have HV := Lib.hid hv
  have HER := Lib.hid her
  clear hx hv her
  have HG := Lib.hid hg
  have HRW := Lib.hid hr
  have HT := Lib.hid hT
  have HRD := Lib.hid hR
  have D0 := Lib.hid (De.new w P I B)
  clear hg hr hl hT hR
  go_enter Tryd.func21, Tryd.ntmps21
  go_wp2_with (fail)
  refine (check_ok P I B _ HG.out).mono ?_
  rintro e w1 ⟨rfl, hb⟩
  have d1 := D0.out.on' hb
  have hr1 := HRW.out.below d1.on
  obtain ⟨⟨b, off, sp⟩, rfl, hbl, hc⟩ := hr1 (by simp)
  have c0 : w1.cell? ⟨b, off, sp⟩ = some (.int .u64 (l0 : Nat)) := hc 0 (by simp)
  obtain rfl := spot_none c0
  have c1 : w1.cell? ⟨b, off + 1, none⟩ = some (.int .u64 (l1 : Nat)) := hc 1 (by simp)
  have c2 : w1.cell? ⟨b, off + 2, none⟩ = some (.int .u64 (l2 : Nat)) := hc 2 (by simp)
  have hA := fun W : World => run_arrayAt (P := Tryd.prog) (w := W) 68 36 3 (some ⟨b, off, none⟩) 3 c Tryd.underlying68 (Nat.le_refl 3)
  have HD1 := Lib.hid d1
  clear hc hr1 hb D0 d1
  go_wp2_with (fail)
  refine (HRD.out _).mono ?_
  clear HRD hA c0 c1 c2
  rintro e w3 ⟨rfl, hb3⟩
  have hi3 : Im w3 w1.heap.size [l0, l1, l2] := by
    have h : Im (w1.alloc (.cells #[.int .u64 (l0 : Nat), .int .u64 (l1 : Nat), .int .u64 (l2 : Nat)] 68)) w1.heap.size [l0, l1, l2] := heap_alloc_new w1 _
    exact Ob.on h hb3
  have d3 := HD1.out.on' ((on_alloc w1 _).trans hb3)
  have HI3 := Lib.hid hi3
  have HD3 := Lib.hid d3
  clear hb3 hi3 d3 HD1
  go_upto_region 8 with (fail)
  obtain ⟨w4, h4⟩ : ∃ w4, w4 = w3.alloc (.cells #[.int .i64 x.I, .int .u8 x.K, .string x.S] 23) := ⟨_, rfl⟩
  rw [← h4]
  have hon4 : On w3 w4 := by rw [h4]; exact on_alloc _ _
  have hs4 : Sb w4 w3.heap.size x := by rw [h4]; exact Ob.new _ _
  have HI4 := Lib.hid (Ob.on HI3.out hon4)
  have HD4 := Lib.hid (HD3.out.on' hon4)
  have HG4 := Lib.hid HD4.out.geo
  have HS := Lib.hid hs4
  have HT4 := Lib.hid (HT.out.below HD4.out.on)
  clear h4 hon4 hs4 HI3 HD3
  have HM := Lib.hid (fun W => emay_good x P I B W HG.out)
  cases ho : okS x I with
  | false =>
    rw [ho] at HM HV HER
    refine wp_region4 [.val (Slt.v x), .val (gv P I B), .val (.bool false), .val (.bool true), .val (.bool true), .any, .any, .any, .any, .val (.bool true)] (by kernel_rfl) (by kernel_rfl) (by kernel_rfl) ?steps ?rest
    case steps =>
      refine ⟨?s0, ?s1, ?s2, ?s3, ?s4, ?s5, ?s6, ?s7, ?s8, ?s9, trivial⟩
      case s0 =>
        exact st4_val _ rfl (.inl rfl) fun a u hb hA hd => run_loadS rfl w3.heap.size _ _ _ (hA.eval 8 rfl) (Ob.on HS.out hb)
      case s1 =>
        exact st4_val _ rfl (.inl rfl) fun a u hb hA hd => run_loadG rfl w.heap.size _ _ _ (hA.eval 3 rfl) (Ob.on HG4.out hb)
      case s2 =>
        refine st4_call _ rfl (.inl rfl) 14 #[x.v, gv P I B] fun a u hb hA hd => ⟨?_, HM.out u⟩
        have q0 := ev_of (hd 0 26 rfl rfl _ rfl)
        have q1 := ev_of (hd 1 27 rfl rfl _ rfl)
        unfold execOp
        simp [go_sem, q0, q1]
      case s3 =>
        exact st4_val _ rfl (.inl rfl) fun a u hb hA hd => by
          have q0 := ev_of (hd 2 28 rfl rfl _ rfl)
          unfold execOp
          simp [go_sem, q0]
      case s4 => exact st4_move 3 29 rfl (.inl rfl) rfl rfl rfl
      case s5 => exact st4_skip 4 30 true rfl rfl rfl rfl rfl
      case s6 => exact st4_skip 4 30 true rfl rfl rfl rfl rfl
      case s7 => exact st4_skip 4 30 true rfl rfl rfl rfl rfl
      case s8 => exact st4_skip 4 30 true rfl rfl rfl rfl rfl
      case s9 => exact st4_val _ rfl (.inl rfl) fun a u hb hA hd => (run_pickT rfl (hd 4 30 rfl rfl _ rfl)).trans rfl
    case rest =>
      intro vs u hb hR
      have e9 : vs 9 = .bool true := hR 9 (by decide)
      clear hR
      simp only [putsFrom, Act.put, List.setIfInBounds_toArray, List.set_cons_succ, List.set_cons_zero, e9]
      clear e9
      generalize vs 0 = z0
      generalize vs 1 = z1
      generalize vs 2 = z2
      generalize vs 3 = z3
      generalize vs 4 = z4
      generalize vs 5 = z5
      generalize vs 6 = z6
      generalize vs 7 = z7
      generalize vs 8 = z8
      have d5 := HD4.out.on' hb
      have ev := HV.out
      have ee := HER.out
      simp only [Bool.false_eq_true, false_and, if_false] at ev ee
      subst ev ee
      obtain ⟨y0, y1, y2⟩ := Sb.cells d5.res
      have s0 := Sb.same d5.res 0 (.int .i64 0) rfl
      have s1 := Sb.same d5.res 1 (.int .u8 0) rfl
      have s2 := Sb.same d5.res 2 (.string ⟨#[]⟩) rfl
      have fz : ∀ k, u.frozen? ⟨w.heap.size + 1, k, none⟩ = false := fun k => by have h := d5.res; unfold Sb Ob at h; simp [World.frozen?, h]
      have hl := Ob.lt d5.res
      have hon := d5.on
      clear HV HER HM HG4 HS HT4 HI4 HD4 hb d5
      go_wp2_with (fail)
      refine (noSlot_calls _ _).mono ?_
      rintro e w6 ⟨rfl, rfl⟩
      go_wp2_with (fail)
      exact bodyPost_ret (v := .tuple #[zS.v, misV 0 7 slotT]) (by simp [results, Tryd.results21, go_sem, y0, y1, y2, zS]) rfl ⟨rfl, hon⟩
  | true =>
    rw [ho] at HM HV HER
    have hW := fun W hT => written_calls x W I (by have h := HG.out; unfold GOK at h; omega) ho hT
    obtain ⟨s0, s1, s2, he⟩ := list3 (slW_length x)
    rw [he] at hW HV HER
    have HW := Lib.hid hW
    obtain ⟨q, hqd⟩ : ∃ q, q = !((s0 : Int) == (l0 : Int) && ((s1 : Int) == (l1 : Int) && (s2 : Int) == (l2 : Int))) := ⟨_, rfl⟩
    have hq : ∀ W, (Op.equalIn 10000 68 (.agg #[.int .u64 (s0 : Nat), .int .u64 (s1 : Nat), .int .u64 (s2 : Nat)]) (.agg #[.int .u64 (l0 : Nat), .int .u64 (l1 : Nat), .int .u64 (l2 : Nat)])).run Tryd.prog W = .ok (!q) W := fun W => by
      rw [hqd, Bool.not_not]
      exact eq3_in 9998 _ _ _ _ _ _ W
    have hqe : q = false ↔ [s0, s1, s2] = [l0, l1, l2] := by
      rw [hqd]
      simp
      omega
    clear hW he hqd ho
    refine wp_region4 [.val (Slt.v x), .val (gv P I B), .val (.bool true), .val (.bool false), .val (.bool false), .val (Slt.v x), .val (.agg #[.int .u64 (s0 : Nat), .int .u64 (s1 : Nat), .int .u64 (s2 : Nat)]), .val (.agg #[.int .u64 (l0 : Nat), .int .u64 (l1 : Nat), .int .u64 (l2 : Nat)]), .val (.bool q), .val (.bool q)] (by kernel_rfl) (by kernel_rfl) (by kernel_rfl) ?steps ?rest
    case steps =>
      refine ⟨?t0, ?t1, ?t2, ?t3, ?t4, ?t5, ?t6, ?t7, ?t8, ?t9, trivial⟩
      case t0 =>
        exact st4_val _ rfl (.inl rfl) fun a u hb hA hd => run_loadS rfl w3.heap.size _ _ _ (hA.eval 8 rfl) (Ob.on HS.out hb)
      case t1 =>
        exact st4_val _ rfl (.inl rfl) fun a u hb hA hd => run_loadG rfl w.heap.size _ _ _ (hA.eval 3 rfl) (Ob.on HG4.out hb)
      case t2 =>
        refine st4_call _ rfl (.inl rfl) 14 #[x.v, gv P I B] fun a u hb hA hd => ⟨?_, HM.out u⟩
        have q0 := ev_of (hd 0 26 rfl rfl _ rfl)
        have q1 := ev_of (hd 1 27 rfl rfl _ rfl)
        unfold execOp
        simp [go_sem, q0, q1]
      case t3 =>
        exact st4_val _ rfl (.inl rfl) fun a u hb hA hd => by
          have q0 := ev_of (hd 2 28 rfl rfl _ rfl)
          unfold execOp
          simp [go_sem, q0]
      case t4 => exact st4_move 3 29 rfl (.inl rfl) rfl rfl rfl
      case t5 =>
        exact st4_val _ rfl (.inr ⟨4, 30, false, rfl, rfl, rfl, rfl⟩) fun a u hb hA hd => run_loadS rfl w3.heap.size _ _ _ (hA.eval 8 rfl) (Ob.on HS.out hb)
      case t6 =>
        refine st4_call _ rfl (.inr ⟨4, 30, false, rfl, rfl, rfl, rfl⟩) 27 #[x.v] fun a u hb hA hd => ⟨?_, HW.out u (HT4.out.below hb)⟩
        have q0 := ev_of (hd 5 31 rfl rfl _ rfl)
        unfold execOp
        simp [go_sem, q0]
      case t7 =>
        exact st4_val _ rfl (.inr ⟨4, 30, false, rfl, rfl, rfl, rfl⟩) fun a u hb hA hd => run_loadI rfl w1.heap.size _ _ _ (hA.eval 7 rfl) (Ob.on HI4.out hb)
      case t8 =>
        exact st4_val _ rfl (.inr ⟨4, 30, false, rfl, rfl, rfl, rfl⟩) fun a u hb hA hd => by
          have q0 := ev_of (hd 6 32 rfl rfl _ rfl)
          have q1 := ev_of (hd 7 33 rfl rfl _ rfl)
          unfold execOp
          simp [go_sem, q0, q1, hq]
      case t9 => exact st4_val _ rfl (.inl rfl) fun a u hb hA hd => (run_pickF rfl (hd 4 30 rfl rfl _ rfl)).trans (by rw [hd 8 34 rfl rfl _ rfl])
    case rest =>
      intro vs u hb hR
      have e9 : vs 9 = .bool q := hR 9 (by decide)
      clear hR
      simp only [putsFrom, Act.put, List.setIfInBounds_toArray, List.set_cons_succ, List.set_cons_zero, e9]
      clear e9
      generalize vs 0 = z0
      generalize vs 1 = z1
      generalize vs 2 = z2
      generalize vs 3 = z3
      generalize vs 4 = z4
      generalize vs 5 = z5
      generalize vs 6 = z6
      generalize vs 7 = z7
      generalize vs 8 = z8
      have d5 := HD4.out.on' hb
      have hs5 := Ob.on HS.out hb
      have ev := HV.out
      have ee := HER.out
      obtain ⟨y0, y1, y2⟩ := Sb.cells d5.res
      have fz : ∀ k, u.frozen? ⟨w.heap.size + 1, k, none⟩ = false := fun k => by have h := d5.res; unfold Sb Ob at h; simp [World.frozen?, h]
      have hl := Ob.lt d5.res
      have hon := d5.on
      clear HV HER HM HW HG4 HS HT4 HI4 HD4 hb hq
      cases q with
      | true =>
        have hne : ¬ [s0, s1, s2] = [l0, l1, l2] := fun h => by cases hqe.2 h
        simp only [hne, and_false, if_false] at ev ee
        subst ev ee
        have s0 := Sb.same d5.res 0 (.int .i64 0) rfl
        have s1 := Sb.same d5.res 1 (.int .u8 0) rfl
        have s2 := Sb.same d5.res 2 (.string ⟨#[]⟩) rfl
        clear d5 hs5 hqe hne
        go_wp2_with (fail)
        refine (noSlot_calls _ _).mono ?_
        rintro e w6 ⟨rfl, rfl⟩
        go_wp2_with (fail)
        exact bodyPost_ret (v := .tuple #[zS.v, misV 0 7 slotT]) (by simp [results, Tryd.results21, go_sem, y0, y1, y2, zS]) rfl ⟨rfl, hon⟩
      | false =>
        have hy : [s0, s1, s2] = [l0, l1, l2] := hqe.1 rfl
        simp only [hy, and_self, if_true] at ev ee
        subst ev ee
        obtain ⟨x0, x1, x2⟩ := Sb.cells hs5
        have hl2 := Ob.lt hs5
        clear d5 hqe hy
        go_wp2_with (fail)
        exact bodyPost_ret (v := .tuple #[v.v, .nilIface]) (by simp [results, Tryd.results21, go_sem, y0, y1, y2]) rfl ⟨rfl, ((Below.setCell hon (Nat.le_succ _) _).setCell (Nat.le_succ _) _).setCell (Nat.le_succ _) _⟩
end Go.Proofs.YtipghcpodhokbaaDoor
