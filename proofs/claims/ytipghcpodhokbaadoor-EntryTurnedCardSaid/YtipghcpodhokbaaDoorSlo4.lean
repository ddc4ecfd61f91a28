/- The slot that words have, as entry reads it; Encode. -/
import Derived.Test.YtipghcpodhokbaaDoorSlo3
import Derived.Test.YtipghcpodhokbaaDoorStp4
set_option linter.unusedSimpArgs false
set_option linter.unusedVariables false
namespace Go.Proofs.YtipghcpodhokbaaDoor
open Go.RowKit WordMath SumMath
theorem Slt.one (x : Slt) : x.c.all (·.oneCell') = true := by rw [← Array.all_toList]; rfl
/-- An image's block, a slot's behind it. -/
structure Rd (w0 w : World) (b : Nat) (l : List Nat) (x : Slt) : Prop where
  on : Below b w0 w
  img : Im w b l
  res : Sb w (b + 1) x
theorem Rd.on' {w0 w w' : World} {b : Nat} {l : List Nat} {x : Slt} (h : Rd w0 w b l x) (hb : On w w') : Rd w0 w' b l x :=
  ⟨h.on.trans (Below.mono hb (Nat.le_of_lt h.img.lt)), Ob.on h.img hb, Ob.on h.res hb⟩
set_option maxRecDepth 100000 in
set_option maxHeartbeats 4000000 in
theorem read_go (l0 l1 l2 : Nat) (w : World) (h2 : l2 < 18446744073709551616) (i k n : Nat) (tx : ByteArray) (er : Int) (hi : fld l2 0 8 = i) (hk : fld l2 8 8 = k) (hn : fld l2 16 8 = n)
    (hX : ∀ W, W.cell? ⟨w.heap.size, 0, none⟩ = some (.int .u64 (l0 : Nat)) → W.cell? ⟨w.heap.size, 1, none⟩ = some (.int .u64 (l1 : Nat)) → w.heap.size < W.heap.size → Calls Tryd.prog 45 #[.slice (some ⟨w.heap.size, 0, none⟩) 2 3, .int .i64 (n : Nat)] W (GivesText tx er W)) :
    Calls Tryd.prog 37 #[.agg #[.int .u64 (l0 : Nat), .int .u64 (l1 : Nat), .int .u64 (l2 : Nat)]] w fun e w' => e = .returned (Slt.v ⟨i, k, tx⟩) ∧ On w w' := by
  have i1 : i < 256 := by rw [← hi]; exact fld_lt _ _ _
  have k1 : k < 256 := by rw [← hk]; exact fld_lt _ _ _
  have n1 : n < 256 := by rw [← hn]; exact fld_lt _ _ _
  have wi : IntKind.i64.wrap (i : Int) = (i : Int) := by rw [IntKind.wrap_i64] <;> omega
  have wk : IntKind.u8.wrap (k : Int) = (k : Int) := by simp [IntKind.wrap, IntKind.bits, IntKind.signed]; omega
  have wn : IntKind.i64.wrap (n : Int) = (n : Int) := by rw [IntKind.wrap_i64] <;> omega
  have HI := Lib.hid (fun W => eget_ok l2 0 8 0 8 W rfl rfl h2 (by decide) (by decide))
  have HK := Lib.hid (fun W => eget_ok l2 8 8 8 8 W rfl rfl h2 (by decide) (by decide))
  have HN := Lib.hid (fun W => eget_ok l2 16 8 16 8 W rfl rfl h2 (by decide) (by decide))
  rw [hi] at HI
  rw [hk] at HK
  rw [hn] at HN
  have HX := Lib.hid hX
  have HR0 : Rd w ((w.alloc (.cells #[.int .u64 (l0 : Nat), .int .u64 (l1 : Nat), .int .u64 (l2 : Nat)] 68)).alloc (.cells #[.int .i64 0, .int .u8 0, .string ⟨#[]⟩] 23)) w.heap.size [l0, l1, l2] zS := by
    refine ⟨on_two _ _ _, (Ob.new w _).alloc _, ?_⟩
    have h := Ob.new (w.alloc (.cells #[.int .u64 (l0 : Nat), .int .u64 (l1 : Nat), .int .u64 (l2 : Nat)] 68)) (.cells #[.int .i64 0, .int .u8 0, .string ⟨#[]⟩] 23)
    rw [World.size_alloc] at h
    exact h
  have HR := Lib.hid HR0
  clear hX hi hk hn HR0
  go_enter Tryd.func37, Tryd.ntmps37
  go_upto_region 1 with (fail)
  generalize (w.alloc (.cells #[.int .u64 (l0 : Nat), .int .u64 (l1 : Nat), .int .u64 (l2 : Nat)] 68)).alloc (.cells #[.int .i64 0, .int .u8 0, .string ⟨#[]⟩] 23) = W at *
  refine wp_region4 [.val (.slice (some ⟨w.heap.size, 0, none⟩) 2 3), .val (.pointer (some ⟨w.heap.size, 2, none⟩)), .val (.int .u64 (l2 : Nat)), .val (.int .u64 (n : Nat)), .val (.int .i64 (n : Nat)), .val (.tuple #[.string tx, .int .i64 er]), .val (.tuple #[.string tx, .int .i64 er]), .val (.string tx), .val (.int .i64 er), .val (.string tx), .val (.int .i64 er)] (by kernel_rfl) (by kernel_rfl) (by kernel_rfl) ?steps ?rest
  case steps =>
    refine ⟨?s0, ?s1, ?s2, ?s3, ?s4, ?s5, ?s6, ?s7, ?s8, ?s9, ?s10, trivial⟩
    case s0 =>
      exact st4_val _ rfl (.inl rfl) fun a u hb hA hd => by
        have q0 := ev_of (show a.eval (.tmp 1) = .pointer (some ⟨w.heap.size, 0, none⟩) from hA.eval 1 rfl)
        unfold execOp
        simp [go_sem, q0]
    case s1 =>
      exact st4_val _ rfl (.inl rfl) fun a u hb hA hd => by
        have q0 := ev_of (show a.eval (.tmp 1) = .pointer (some ⟨w.heap.size, 0, none⟩) from hA.eval 1 rfl)
        unfold execOp
        simp [go_sem, q0]
    case s2 =>
      exact st4_val _ rfl (.inl rfl) fun a u hb hA hd => run_load64 rfl ⟨w.heap.size, 2, none⟩ _ (hd 1 7 rfl rfl _ rfl) (Blk.cells3 (Ob.on HR.out.img hb)).2.2
    case s3 =>
      refine st4_call _ rfl (.inl rfl) 39 #[.int .u64 (l2 : Nat), .int .i64 16, .int .i64 8] fun a u hb hA hd => ⟨?_, (HN.out u).mono fun _ _ ⟨he, hw⟩ => ⟨he, hw ▸ On.refl _⟩⟩
      have q0 := ev_of (hd 2 8 rfl rfl _ rfl)
      unfold execOp
      simp [go_sem, q0]
    case s4 =>
      exact st4_val _ rfl (.inl rfl) fun a u hb hA hd => by
        have q0 := ev_of (hd 3 9 rfl rfl _ rfl)
        unfold execOp
        simp [go_sem, q0, wn]
    case s5 =>
      refine st4_call _ rfl (.inl rfl) 45 #[.slice (some ⟨w.heap.size, 0, none⟩) 2 3, .int .i64 (n : Nat)] fun a u hb hA hd => ⟨?_, HX.out u (Blk.cells3 (Ob.on HR.out.img hb)).1 (Blk.cells3 (Ob.on HR.out.img hb)).2.1 (Nat.lt_of_lt_of_le HR.out.img.lt (Below.size hb))⟩
      have q0 := ev_of (hd 0 6 rfl rfl _ rfl)
      have q1 := ev_of (hd 4 10 rfl rfl _ rfl)
      unfold execOp
      simp [go_sem, q0, q1]
    case s6 => exact st4_move 5 11 rfl (.inl rfl) rfl rfl rfl
    case s7 =>
      exact st4_val _ rfl (.inl rfl) fun a u hb hA hd => by
        have q0 := ev_of (hd 6 5 rfl rfl _ rfl)
        unfold execOp
        simp [go_sem, q0, Instr.extract]
    case s8 =>
      exact st4_val _ rfl (.inl rfl) fun a u hb hA hd => by
        have q0 := ev_of (hd 6 5 rfl rfl _ rfl)
        unfold execOp
        simp [go_sem, q0, Instr.extract]
    case s9 => exact st4_assign 7 12 rfl (.inl rfl) rfl rfl rfl
    case s10 => exact st4_assign 8 13 rfl (.inl rfl) rfl rfl rfl
  case rest =>
    intro vs u hb hR
    have e9 : vs 9 = .string tx := hR 9 (by decide)
    have e10 : vs 10 = .int .i64 er := hR 10 (by decide)
    clear hR
    simp only [putsFrom, Act.put, List.setIfInBounds_toArray, List.set_cons_succ, List.set_cons_zero, e9, e10]
    clear e9 e10
    generalize vs 0 = z0
    generalize vs 1 = z1
    generalize vs 2 = z2
    generalize vs 3 = z3
    generalize vs 4 = z4
    generalize vs 5 = z5
    generalize vs 6 = z6
    generalize vs 7 = z7
    generalize vs 8 = z8
    have hr2 := HR.out.on' hb
    clear HR HX HN hb wn
    have HR := Lib.hid hr2
    clear hr2
    go_upto_region 2 with (fail)
    refine wp_region5 (w.heap.size + 1) (.cells (Slt.c ⟨i, k, tx⟩) 23 (0, 0)) 10 [.val (.pointer (some ⟨w.heap.size, 2, none⟩)), .val (.int .u64 (l2 : Nat)), .val (.int .u64 (i : Nat)), .val (.int .i64 (i : Nat)), .val (.pointer (some ⟨w.heap.size, 2, none⟩)), .val (.int .u64 (l2 : Nat)), .val (.int .u64 (k : Nat)), .val (.int .u8 (k : Nat)), .val (.string tx), .val (Slt.v ⟨i, k, tx⟩), .done] (by kernel_rfl) (by kernel_rfl) (by kernel_rfl) (by kernel_rfl) ?steps2 ?rest2
    case steps2 =>
      refine ⟨?t0, ?t1, ?t2, ?t3, ?t4, ?t5, ?t6, ?t7, ?t8, ?t9, ?t10, trivial⟩
      case t0 =>
        exact st2_val _ rfl rfl (by decide) (by decide) fun a u hb hA hd => by
          have q0 := ev_of (show a.eval (.tmp 1) = .pointer (some ⟨w.heap.size, 0, none⟩) from hA.eval 1 rfl)
          unfold execOp
          simp [go_sem, q0]
      case t1 =>
        exact st2_val _ rfl rfl (by decide) (by decide) fun a u hb hA hd => run_load64 rfl ⟨w.heap.size, 2, none⟩ _ (hd 0 14 rfl rfl _ rfl) (Blk.cells3 (Ob.on HR.out.img hb)).2.2
      case t2 =>
        refine st2_call _ rfl rfl (by decide) (by decide) 39 #[.int .u64 (l2 : Nat), .int .i64 0, .int .i64 8] fun a u hb hA hd => ⟨?_, (HI.out u).mono fun _ _ ⟨he, hw⟩ => ⟨he, hw ▸ On.refl _⟩⟩
        have q0 := ev_of (hd 1 15 rfl rfl _ rfl)
        unfold execOp
        simp [go_sem, q0]
      case t3 =>
        exact st2_val _ rfl rfl (by decide) (by decide) fun a u hb hA hd => by
          have q0 := ev_of (hd 2 16 rfl rfl _ rfl)
          unfold execOp
          simp [go_sem, q0, wi]
      case t4 =>
        exact st2_val _ rfl rfl (by decide) (by decide) fun a u hb hA hd => by
          have q0 := ev_of (show a.eval (.tmp 1) = .pointer (some ⟨w.heap.size, 0, none⟩) from hA.eval 1 rfl)
          unfold execOp
          simp [go_sem, q0]
      case t5 =>
        exact st2_val _ rfl rfl (by decide) (by decide) fun a u hb hA hd => run_load64 rfl ⟨w.heap.size, 2, none⟩ _ (hd 4 18 rfl rfl _ rfl) (Blk.cells3 (Ob.on HR.out.img hb)).2.2
      case t6 =>
        refine st2_call _ rfl rfl (by decide) (by decide) 39 #[.int .u64 (l2 : Nat), .int .i64 8, .int .i64 8] fun a u hb hA hd => ⟨?_, (HK.out u).mono fun _ _ ⟨he, hw⟩ => ⟨he, hw ▸ On.refl _⟩⟩
        have q0 := ev_of (hd 5 19 rfl rfl _ rfl)
        unfold execOp
        simp [go_sem, q0]
      case t7 =>
        exact st2_val _ rfl rfl (by decide) (by decide) fun a u hb hA hd => by
          have q0 := ev_of (hd 6 20 rfl rfl _ rfl)
          unfold execOp
          simp [go_sem, q0, wk]
      case t8 =>
        exact st2_val _ rfl rfl (by decide) (by decide) fun a u hb hA hd => by
          have q0 := ev_of (show a.eval (.tmp 3) = .string tx from hA.eval 3 rfl)
          unfold execOp
          simp [go_sem, q0]
      case t9 =>
        exact st2_val _ rfl rfl (by decide) (by decide) fun a u hb hA hd => by
          have q0 := ev_of (hd 3 17 rfl rfl _ rfl)
          have q1 := ev_of (hd 7 21 rfl rfl _ rfl)
          have q2 := ev_of (hd 8 22 rfl rfl _ rfl)
          unfold execOp
          simp [go_sem, q0, q1, q2]
      case t10 =>
        exact st2_store rfl rfl rfl fun a u hb hA hd => ⟨_, run_storeO 23 23 rfl (w.heap.size + 1) _ _ (hA.eval 2 rfl) (hd 9 23 rfl rfl _ rfl) (Ob.on HR.out.res hb) (by kernel_rfl) rfl (Slt.one _), storeO_only (Ob.on HR.out.res hb)⟩
    case rest2 =>
      intro vs u2 hT hR
      have h10 : Sb u2 (w.heap.size + 1) ⟨i, k, tx⟩ := hR 10 (by decide)
      have hon : Below w.heap.size w u2 := HR.out.on.trans (Only.below hT.only (Nat.le_of_lt HR.out.img.lt) (fun j hj => by omega))
      simp only [putsFrom, Act.put, List.setIfInBounds_toArray, List.set_cons_succ, List.set_cons_zero]
      generalize vs 0 = y0
      generalize vs 1 = y1
      generalize vs 2 = y2
      generalize vs 3 = y3
      generalize vs 4 = y4
      generalize vs 5 = y5
      generalize vs 6 = y6
      generalize vs 7 = y7
      generalize vs 8 = y8
      generalize vs 9 = y9
      generalize vs 10 = y10
      clear hR hT HR HI HK wi wk
      obtain ⟨x0, x1, x2⟩ := Sb.cells h10
      have hl := Ob.lt h10
      go_wp2_with (fail)
      exact bodyPost_ret (v := Slt.v ⟨i, k, tx⟩) (by simp [results, Tryd.results37, go_sem, x0, x1, x2]) rfl ⟨rfl, hon⟩
theorem read_calls (l : List Nat) (w : World) (hl : Wd l) (h3 : l.length = 3) : Calls Tryd.prog 37 #[.agg (wv l).toArray] w fun e w' => e = .returned (rdS l).v ∧ On w w' := by
  match l, h3 with
  | [l0, l1, l2], _ =>
    have h2 : l2 < 18446744073709551616 := hl 2
    refine read_go l0 l1 l2 w h2 _ _ _ (txtV [l0, l1] (fld l2 16 8 : Nat)) (txtE [l0, l1] (fld l2 16 8 : Nat)) rfl rfl rfl fun W c0 c1 hlt => ?_
    have hn : fld l2 16 8 < 256 := fld_lt _ _ _
    have h := text_calls (some ⟨w.heap.size, 0, none⟩) [l0, l1] 3 (fld l2 16 8 : Nat) W (by omega) (fun _ => ⟨_, rfl, hlt, fun j hj => by
      match j, hj with
      | 0, _ => rw [add_zero_block]; exact c0
      | 1, _ => rw [add_zero_block]; exact c1
      | j + 2, hj => exact absurd hj (by simp)⟩) (fun j => by
      match j with
      | 0 => exact hl 0
      | 1 => exact hl 1
      | j + 2 => simp) (by simp)
    exact h
end Go.Proofs.YtipghcpodhokbaaDoor
