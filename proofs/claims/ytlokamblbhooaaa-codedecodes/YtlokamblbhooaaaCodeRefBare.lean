/-
  The chapter's bare: is all of a record nought but what some letters name.
-/
import Derived.Test.YtlokamblbhooaaaCodeUnw
import Derived.Test.YtlokamblbhooaaaCodeOwn
import Derived.Deep.CutRange
namespace Go.Proofs.Ytlokamblbhooaaa.code
open Go.ChangeShapes Go.WideShapes Go.ChangeAt Go.RowKit Go.Deep
open Go.Proofs.Ytlokamblbhooaaa.dims (nth Ints cell_lt vals vals_len vals_get vals_one vals_app own_below own_mono own_out own_apart RowOut ret_bool ret_int)
set_option linter.unusedVariables false
set_option maxRecDepth 100000
set_option linter.unusedSimpArgs false

def hasT (l : List UInt8) (k : Nat) (c : Nat) : Bool := (l.take k).any fun y => decide (y.toNat = c)
def byt (l : List UInt8) (k : Nat) : Int := ((l.getD k 0).toNat : Int)
theorem hasT_succ {l : List UInt8} {k : Nat} (c : Nat) (h : k < l.length) : hasT l (k + 1) c = (hasT l k c || decide (byt l k = (c : Int))) := by
  unfold hasT byt
  rw [List.take_succ_eq_append_getElem h, List.any_append]
  simp [h]
  congr 1
  exact decide_eq_decide.2 ⟨fun h => by omega, fun h => by omega⟩
theorem bval {a b : Bool} (h : a = b) : Value.bool a = Value.bool b := by rw [h]
theorem str_index (l : List UInt8) (k : Nat) (h : k < l.length) (w : World) : (Instr.index 9 (.string ⟨l.toArray⟩) (.int .i64 (k : Int))).run Try.prog w = .ok (.int .u8 (byt l k)) w := by
  rw [run_index_string w 9 ⟨l.toArray⟩ .i64 k Try.underlying9]
  rw [dif_pos ⟨by omega, by show (k : Int) < ((l.toArray).size : Nat); simp; omega⟩]
  unfold byt
  have e : ({ data := l.toArray } : ByteArray)[(k : Int).toNat]'(by show (k : Int).toNat < (l.toArray).size; simp; omega) = l.getD k 0 := by
    show (l.toArray)[(k : Int).toNat]'(by simp; omega) = _
    simp [h]
  rw [e]

def bareB (id at_ : Int) (nn fn : Nat) (epoch : Int) (sn : Nat) (frm til : Int) (en : Nat) (l : List UInt8) : Bool :=
  (decide (id = 0) || hasT l l.length 73) && ((decide (at_ = 0) || hasT l l.length 65) && ((decide (nn = 0) || hasT l l.length 78) && ((decide (fn = 0) || hasT l l.length 70) && (((decide (epoch = 0) && decide (sn = 0)) || hasT l l.length 77) && ((decide (frm = 0) && (decide (til = 0) && decide (en = 0))) || hasT l l.length 82)))))

set_option maxHeartbeats 16000000 in
theorem bare_val (kind id at_ epoch frm til : Int) (na fa sa ea : Option Addr) (nn nc fn fc sn sc en ec : Nat) (l : List UInt8) (n : Nat) (hn : l.length = n) (hm : n ≤ 100) (w : World) :
    Calls Try.prog 32 #[.agg #[.int .u8 kind, .int .u32 id, .int .u32 at_, .slice na nn nc, .slice fa fn fc, .int .u32 epoch, .slice sa sn sc, .int .i64 frm, .int .i64 til, .slice ea en ec], .string ⟨l.toArray⟩] w fun e w' => e = .returned (.bool (bareB id at_ nn fn epoch sn frm til en l)) ∧ Below w.heap.size w w' := by
  have hsz : (⟨l.toArray⟩ : ByteArray).size = n := by show (l.toArray).size = n; simp [hn]
  have HN : Hid (l.length = n) := hn
  have hB : Below w.heap.size w (w.alloc (.cells #[.int .u8 kind, .int .u32 id, .int .u32 at_, .slice na nn nc, .slice fa fn fc, .int .u32 epoch, .slice sa sn sc, .int .i64 frm, .int .i64 til, .slice ea en ec] 30)) := (Below.refl _ _).alloc (Nat.le_refl _) _
  have hx := Boxed.new w #[.int .u8 kind, .int .u32 id, .int .u32 at_, .slice na nn nc, .slice fa fn fc, .int .u32 epoch, .slice sa sn sc, .int .i64 frm, .int .i64 til, .slice ea en ec] 30
  clear hn
  go_enter Try.func32, Try.ntmps32
  go_upto_region 1 with fail
  generalize (w.alloc (.cells #[.int .u8 kind, .int .u32 id, .int .u32 at_, .slice na nn nc, .slice fa fn fc, .int .u32 epoch, .slice sa sn sc, .int .i64 frm, .int .i64 til, .slice ea en ec] 30)) = w1 at hB hx ⊢
  have HB : Aside (Below w.heap.size w w1) := hB
  have q1 := hx.cell (j := 1) rfl
  have q2 := hx.cell (j := 2) rfl
  have q3 := hx.cell (j := 3) rfl
  have q4 := hx.cell (j := 4) rfl
  have q5 := hx.cell (j := 5) rfl
  have q6 := hx.cell (j := 6) rfl
  have q7 := hx.cell (j := 7) rfl
  have q8 := hx.cell (j := 8) rfl
  have q9 := hx.cell (j := 9) rfl
  clear hx hB
  go_upto_region 1 with fail
  go_cut [5] from 12 to 50 (fun t wx => t = .bool (decide (id = 0)) ∧ wx = w1)
  case first =>
    by_cases c0 : id = 0
    rotate_left
    · have c0' : (id == 0) = false := by simpa using c0
      have HE : Hid (¬ id = 0) := c0
      clear c0
      go_wp2_with fail
      go_meet
      case rel => exact ⟨bval (by have := HE.out; simp [this]), rfl⟩
    have c0' : (id == 0) = true := by simpa using c0
    have HE0 : Hid (id = 0) := c0
    clear c0
    go_wp2_with fail
    go_meet
    case rel => exact ⟨bval (by simp [show id = 0 from HE0.out]), rfl⟩
  case rest =>
    obtain ⟨rfl, hwc⟩ := hcut
    have hwc2 := hwc.symm
    clear hwc
    subst hwc2
    go_upto_region 2 with fail
    go_cut [6] from 12 to 50 (fun t wx => t = .bool (decide (at_ = 0)) ∧ wx = w1)
    case first =>
      by_cases c0 : at_ = 0
      rotate_left
      · have c0' : (at_ == 0) = false := by simpa using c0
        have HE : Hid (¬ at_ = 0) := c0
        clear c0
        go_wp2_with fail
        go_meet
        case rel => exact ⟨bval (by have := HE.out; simp [this]), rfl⟩
      have c0' : (at_ == 0) = true := by simpa using c0
      have HE0 : Hid (at_ = 0) := c0
      clear c0
      go_wp2_with fail
      go_meet
      case rel => exact ⟨bval (by simp [show at_ = 0 from HE0.out]), rfl⟩
    case rest =>
      obtain ⟨rfl, hwc⟩ := hcut
      have hwc2 := hwc.symm
      clear hwc
      subst hwc2
      go_upto_region 3 with fail
      go_cut [7] from 12 to 50 (fun t wx => t = .bool (decide (nn = 0)) ∧ wx = w1)
      case first =>
        by_cases c0 : nn = 0
        rotate_left
        · have c0' : (nn == 0) = false := by simpa using c0
          have c0'' : (((nn : Nat) : Int) == 0) = false := by simp; omega
          have HE : Hid (¬ nn = 0) := c0
          clear c0
          go_wp2_with fail
          go_meet
          case rel => exact ⟨bval (by have := HE.out; simp [this]), rfl⟩
        have c0' : (nn == 0) = true := by simpa using c0
        have c0'' : (((nn : Nat) : Int) == 0) = true := by simp; omega
        have HE0 : Hid (nn = 0) := c0
        clear c0
        go_wp2_with fail
        go_meet
        case rel => exact ⟨bval (by simp [show nn = 0 from HE0.out]), rfl⟩
      case rest =>
        obtain ⟨rfl, hwc⟩ := hcut
        have hwc2 := hwc.symm
        clear hwc
        subst hwc2
        go_upto_region 4 with fail
        go_cut [8] from 12 to 50 (fun t wx => t = .bool (decide (fn = 0)) ∧ wx = w1)
        case first =>
          by_cases c0 : fn = 0
          rotate_left
          · have c0' : (fn == 0) = false := by simpa using c0
            have c0'' : (((fn : Nat) : Int) == 0) = false := by simp; omega
            have HE : Hid (¬ fn = 0) := c0
            clear c0
            go_wp2_with fail
            go_meet
            case rel => exact ⟨bval (by have := HE.out; simp [this]), rfl⟩
          have c0' : (fn == 0) = true := by simpa using c0
          have c0'' : (((fn : Nat) : Int) == 0) = true := by simp; omega
          have HE0 : Hid (fn = 0) := c0
          clear c0
          go_wp2_with fail
          go_meet
          case rel => exact ⟨bval (by simp [show fn = 0 from HE0.out]), rfl⟩
        case rest =>
          obtain ⟨rfl, hwc⟩ := hcut
          have hwc2 := hwc.symm
          clear hwc
          subst hwc2
          go_upto_region 5 with fail
          go_cut [9] from 12 to 50 (fun t wx => t = .bool (decide (epoch = 0) && decide (sn = 0)) ∧ wx = w1)
          case first =>
            by_cases c0 : epoch = 0
            rotate_left
            · have c0' : (epoch == 0) = false := by simpa using c0
              have HE : Hid (¬ epoch = 0) := c0
              clear c0
              go_wp2_with fail
              go_meet
              case rel => exact ⟨bval (by have := HE.out; simp [this]), rfl⟩
            have c0' : (epoch == 0) = true := by simpa using c0
            have HE0 : Hid (epoch = 0) := c0
            clear c0
            by_cases c1 : sn = 0
            rotate_left
            · have c1' : (sn == 0) = false := by simpa using c1
              have c1'' : (((sn : Nat) : Int) == 0) = false := by simp; omega
              have HE : Hid (¬ sn = 0) := c1
              clear c1
              go_wp2_with fail
              go_meet
              case rel => exact ⟨bval (by have := HE.out; simp [this]), rfl⟩
            have c1' : (sn == 0) = true := by simpa using c1
            have c1'' : (((sn : Nat) : Int) == 0) = true := by simp; omega
            have HE1 : Hid (sn = 0) := c1
            clear c1
            go_wp2_with fail
            go_meet
            case rel => exact ⟨bval (by simp [show epoch = 0 from HE0.out, show sn = 0 from HE1.out]), rfl⟩
          case rest =>
            obtain ⟨rfl, hwc⟩ := hcut
            have hwc2 := hwc.symm
            clear hwc
            subst hwc2
            go_upto_region 6 with fail
            go_cut [10] from 12 to 50 (fun t wx => t = .bool (decide (frm = 0) && (decide (til = 0) && decide (en = 0))) ∧ wx = w1)
            case first =>
              by_cases c0 : frm = 0
              rotate_left
              · have c0' : (frm == 0) = false := by simpa using c0
                have HE : Hid (¬ frm = 0) := c0
                clear c0
                go_wp2_with fail
                go_meet
                case rel => exact ⟨bval (by have := HE.out; simp [this]), rfl⟩
              have c0' : (frm == 0) = true := by simpa using c0
              have HE0 : Hid (frm = 0) := c0
              clear c0
              by_cases c1 : til = 0
              rotate_left
              · have c1' : (til == 0) = false := by simpa using c1
                have HE : Hid (¬ til = 0) := c1
                clear c1
                go_wp2_with fail
                go_meet
                case rel => exact ⟨bval (by have := HE.out; simp [this]), rfl⟩
              have c1' : (til == 0) = true := by simpa using c1
              have HE1 : Hid (til = 0) := c1
              clear c1
              by_cases c2 : en = 0
              rotate_left
              · have c2' : (en == 0) = false := by simpa using c2
                have c2'' : (((en : Nat) : Int) == 0) = false := by simp; omega
                have HE : Hid (¬ en = 0) := c2
                clear c2
                go_wp2_with fail
                go_meet
                case rel => exact ⟨bval (by have := HE.out; simp [this]), rfl⟩
              have c2' : (en == 0) = true := by simpa using c2
              have c2'' : (((en : Nat) : Int) == 0) = true := by simp; omega
              have HE2 : Hid (en = 0) := c2
              clear c2
              go_wp2_with fail
              go_meet
              case rel => exact ⟨bval (by simp [show frm = 0 from HE0.out, show til = 0 from HE1.out, show en = 0 from HE2.out]), rfl⟩
            case rest =>
              obtain ⟨rfl, hwc⟩ := hcut
              have hwc2 := hwc.symm
              clear hwc
              subst hwc2
              obtain ⟨zi, za, zn, zf, zm, ze, hzi, hza, hzn, hzf, hzm, hze⟩ : ∃ zi za zn zf zm ze : Bool, (decide (id = 0)) = zi ∧ (decide (at_ = 0)) = za ∧ (decide (nn = 0)) = zn ∧ (decide (fn = 0)) = zf ∧ (decide (epoch = 0) && decide (sn = 0)) = zm ∧ (decide (frm = 0) && (decide (til = 0) && decide (en = 0))) = ze := ⟨_, _, _, _, _, _, rfl, rfl, rfl, rfl, rfl, rfl⟩
              rw [hzi, hza, hzn, hzf, hzm, hze]
              have HZ : Hid (bareB id at_ nn fn epoch sn frm til en l = ((zi || hasT l n 73) && ((za || hasT l n 65) && ((zn || hasT l n 78) && ((zf || hasT l n 70) && ((zm || hasT l n 77) && (ze || hasT l n 82))))))) := by show _ = _; unfold bareB; rw [hzi, hza, hzn, hzf, hzm, hze, HN.out]
              clear hzi hza hzn hzf hzm hze
              go_wp2_with fail
              go_loopg [5, 6, 7, 8, 9, 10, 11] n (fun g1 vi va vn vf vm ve vk wr => ∃ (k : Nat), vk = .int .i64 k ∧ k ≤ n ∧ n - k ≤ g1 ∧ wr = w1 ∧ vi = .bool (zi || hasT l k 73) ∧ va = .bool (za || hasT l k 65) ∧ vn = .bool (zn || hasT l k 78) ∧ vf = .bool (zf || hasT l k 70) ∧ vm = .bool (zm || hasT l k 77) ∧ ve = .bool (ze || hasT l k 82))
              case atStart => exact ⟨0, rfl, Nat.zero_le _, Nat.le_refl _, rfl, by simp [hasT], by simp [hasT], by simp [hasT], by simp [hasT], by simp [hasT], by simp [hasT]⟩
              case round =>
                obtain ⟨k, rfl, hk, hg1, hwr, rfl, rfl, rfl, rfl, rfl, rfl⟩ := hrel
                have hwr2 := hwr.symm
                clear hwr
                subst hwr2
                by_cases hlt : k < n
                · have hltz : (k : Int) < (n : Int) := by omega
                  have hix := str_index l k (by rw [HN.out]; exact hlt) w1
                  have Hi : Hid ((zi || hasT l (k + 1) 73) = ((zi || hasT l k 73) || decide (byt l k = 73))) := by show _ = _; rw [hasT_succ 73 (by rw [HN.out]; exact hlt), Bool.or_assoc]; rfl
                  have Ha : Hid ((za || hasT l (k + 1) 65) = ((za || hasT l k 65) || decide (byt l k = 65))) := by show _ = _; rw [hasT_succ 65 (by rw [HN.out]; exact hlt), Bool.or_assoc]; rfl
                  have Hn : Hid ((zn || hasT l (k + 1) 78) = ((zn || hasT l k 78) || decide (byt l k = 78))) := by show _ = _; rw [hasT_succ 78 (by rw [HN.out]; exact hlt), Bool.or_assoc]; rfl
                  have Hf : Hid ((zf || hasT l (k + 1) 70) = ((zf || hasT l k 70) || decide (byt l k = 70))) := by show _ = _; rw [hasT_succ 70 (by rw [HN.out]; exact hlt), Bool.or_assoc]; rfl
                  have Hm : Hid ((zm || hasT l (k + 1) 77) = ((zm || hasT l k 77) || decide (byt l k = 77))) := by show _ = _; rw [hasT_succ 77 (by rw [HN.out]; exact hlt), Bool.or_assoc]; rfl
                  have He : Hid ((ze || hasT l (k + 1) 82) = ((ze || hasT l k 82) || decide (byt l k = 82))) := by show _ = _; rw [hasT_succ 82 (by rw [HN.out]; exact hlt), Bool.or_assoc]; rfl
                  generalize (zi || hasT l k 73) = bi at Hi ⊢
                  generalize (za || hasT l k 65) = ba at Ha ⊢
                  generalize (zn || hasT l k 78) = bn at Hn ⊢
                  generalize (zf || hasT l k 70) = bf at Hf ⊢
                  generalize (zm || hasT l k 77) = bm at Hm ⊢
                  generalize (ze || hasT l k 82) = be at He ⊢
                  generalize byt l k = y at *
                  go_upto_region 10 with fail
                  go_cut [5] from 51 to 98 (fun t wx => t = .bool (bi || decide (y = 73)) ∧ wx = w1)
                  case first =>
                    cases bi with
                    | true =>
                      go_wp2_with fail
                      go_meet
                      case rel => exact ⟨rfl, rfl⟩
                    | false =>
                      by_cases hy : y = 73
                      · have hy' : (y == 73) = true := by simpa using hy
                        have HY : Hid (y = 73) := hy
                        clear hy
                        go_wp2_with fail
                        go_meet
                        case rel => exact ⟨bval (by simp [show y = 73 from HY.out]), rfl⟩
                      · have hy' : (y == 73) = false := by simpa using hy
                        have HY : Hid (¬ y = 73) := hy
                        clear hy
                        go_wp2_with fail
                        go_meet
                        case rel => exact ⟨bval (by simp [show ¬ y = 73 from HY.out]), rfl⟩
                  case rest =>
                    obtain ⟨rfl, hwc⟩ := hcut
                    have hwc2 := hwc.symm
                    clear hwc
                    subst hwc2
                    go_upto_region 11 with fail
                    go_cut [6] from 51 to 98 (fun t wx => t = .bool (ba || decide (y = 65)) ∧ wx = w1)
                    case first =>
                      cases ba with
                      | true =>
                        go_wp2_with fail
                        go_meet
                        case rel => exact ⟨rfl, rfl⟩
                      | false =>
                        by_cases hy : y = 65
                        · have hy' : (y == 65) = true := by simpa using hy
                          have HY : Hid (y = 65) := hy
                          clear hy
                          go_wp2_with fail
                          go_meet
                          case rel => exact ⟨bval (by simp [show y = 65 from HY.out]), rfl⟩
                        · have hy' : (y == 65) = false := by simpa using hy
                          have HY : Hid (¬ y = 65) := hy
                          clear hy
                          go_wp2_with fail
                          go_meet
                          case rel => exact ⟨bval (by simp [show ¬ y = 65 from HY.out]), rfl⟩
                    case rest =>
                      obtain ⟨rfl, hwc⟩ := hcut
                      have hwc2 := hwc.symm
                      clear hwc
                      subst hwc2
                      go_upto_region 12 with fail
                      go_cut [7] from 51 to 98 (fun t wx => t = .bool (bn || decide (y = 78)) ∧ wx = w1)
                      case first =>
                        cases bn with
                        | true =>
                          go_wp2_with fail
                          go_meet
                          case rel => exact ⟨rfl, rfl⟩
                        | false =>
                          by_cases hy : y = 78
                          · have hy' : (y == 78) = true := by simpa using hy
                            have HY : Hid (y = 78) := hy
                            clear hy
                            go_wp2_with fail
                            go_meet
                            case rel => exact ⟨bval (by simp [show y = 78 from HY.out]), rfl⟩
                          · have hy' : (y == 78) = false := by simpa using hy
                            have HY : Hid (¬ y = 78) := hy
                            clear hy
                            go_wp2_with fail
                            go_meet
                            case rel => exact ⟨bval (by simp [show ¬ y = 78 from HY.out]), rfl⟩
                      case rest =>
                        obtain ⟨rfl, hwc⟩ := hcut
                        have hwc2 := hwc.symm
                        clear hwc
                        subst hwc2
                        go_upto_region 13 with fail
                        go_cut [8] from 51 to 98 (fun t wx => t = .bool (bf || decide (y = 70)) ∧ wx = w1)
                        case first =>
                          cases bf with
                          | true =>
                            go_wp2_with fail
                            go_meet
                            case rel => exact ⟨rfl, rfl⟩
                          | false =>
                            by_cases hy : y = 70
                            · have hy' : (y == 70) = true := by simpa using hy
                              have HY : Hid (y = 70) := hy
                              clear hy
                              go_wp2_with fail
                              go_meet
                              case rel => exact ⟨bval (by simp [show y = 70 from HY.out]), rfl⟩
                            · have hy' : (y == 70) = false := by simpa using hy
                              have HY : Hid (¬ y = 70) := hy
                              clear hy
                              go_wp2_with fail
                              go_meet
                              case rel => exact ⟨bval (by simp [show ¬ y = 70 from HY.out]), rfl⟩
                        case rest =>
                          obtain ⟨rfl, hwc⟩ := hcut
                          have hwc2 := hwc.symm
                          clear hwc
                          subst hwc2
                          go_upto_region 14 with fail
                          go_cut [9] from 51 to 98 (fun t wx => t = .bool (bm || decide (y = 77)) ∧ wx = w1)
                          case first =>
                            cases bm with
                            | true =>
                              go_wp2_with fail
                              go_meet
                              case rel => exact ⟨rfl, rfl⟩
                            | false =>
                              by_cases hy : y = 77
                              · have hy' : (y == 77) = true := by simpa using hy
                                have HY : Hid (y = 77) := hy
                                clear hy
                                go_wp2_with fail
                                go_meet
                                case rel => exact ⟨bval (by simp [show y = 77 from HY.out]), rfl⟩
                              · have hy' : (y == 77) = false := by simpa using hy
                                have HY : Hid (¬ y = 77) := hy
                                clear hy
                                go_wp2_with fail
                                go_meet
                                case rel => exact ⟨bval (by simp [show ¬ y = 77 from HY.out]), rfl⟩
                          case rest =>
                            obtain ⟨rfl, hwc⟩ := hcut
                            have hwc2 := hwc.symm
                            clear hwc
                            subst hwc2
                            cases be with
                            | true =>
                              go_wp2
                              go_roundg (n - (k + 1))
                              case measure => omega
                              case rel => exact ⟨k + 1, by go_num, by omega, by omega, rfl, bval (show _ = _ from Hi.out).symm, bval (show _ = _ from Ha.out).symm, bval (show _ = _ from Hn.out).symm, bval (show _ = _ from Hf.out).symm, bval (show _ = _ from Hm.out).symm, bval (by rw [show _ = _ from He.out]; simp)⟩
                            | false =>
                              by_cases hy : y = 82
                              · have hy' : (y == 82) = true := by simpa using hy
                                have HY : Hid (y = 82) := hy
                                clear hy
                                go_wp2
                                go_roundg (n - (k + 1))
                                case measure => omega
                                case rel => exact ⟨k + 1, by go_num, by omega, by omega, rfl, bval (show _ = _ from Hi.out).symm, bval (show _ = _ from Ha.out).symm, bval (show _ = _ from Hn.out).symm, bval (show _ = _ from Hf.out).symm, bval (show _ = _ from Hm.out).symm, bval (by rw [show _ = _ from He.out]; simp [show y = 82 from HY.out])⟩
                              · have hy' : (y == 82) = false := by simpa using hy
                                have HY : Hid (¬ y = 82) := hy
                                clear hy
                                go_wp2
                                go_roundg (n - (k + 1))
                                case measure => omega
                                case rel => exact ⟨k + 1, by go_num, by omega, by omega, rfl, bval (show _ = _ from Hi.out).symm, bval (show _ = _ from Ha.out).symm, bval (show _ = _ from Hn.out).symm, bval (show _ = _ from Hf.out).symm, bval (show _ = _ from Hm.out).symm, bval (by rw [show _ = _ from He.out]; simp [show ¬ y = 82 from HY.out])⟩
                · have hltz : ¬ (k : Int) < (n : Int) := by omega
                  have hke : n = k := by omega
                  rw [hke] at HZ
                  generalize (zi || hasT l k 73) = bi at HZ ⊢
                  generalize (za || hasT l k 65) = ba at HZ ⊢
                  generalize (zn || hasT l k 78) = bn at HZ ⊢
                  generalize (zf || hasT l k 70) = bf at HZ ⊢
                  generalize (zm || hasT l k 77) = bm at HZ ⊢
                  generalize (ze || hasT l k 82) = be at HZ ⊢
                  cases bi with
                  | false =>
                    go_wp2
                    go_ret
                    exact ⟨ret_bool (by rw [show _ = _ from HZ.out]; simp), HB.out⟩
                  | true =>
                    cases ba with
                    | false =>
                      go_wp2
                      go_ret
                      exact ⟨ret_bool (by rw [show _ = _ from HZ.out]; simp), HB.out⟩
                    | true =>
                      cases bn with
                      | false =>
                        go_wp2
                        go_ret
                        exact ⟨ret_bool (by rw [show _ = _ from HZ.out]; simp), HB.out⟩
                      | true =>
                        cases bf with
                        | false =>
                          go_wp2
                          go_ret
                          exact ⟨ret_bool (by rw [show _ = _ from HZ.out]; simp), HB.out⟩
                        | true =>
                          cases bm with
                          | false =>
                            go_wp2
                            go_ret
                            exact ⟨ret_bool (by rw [show _ = _ from HZ.out]; simp), HB.out⟩
                          | true =>
                            cases be with
                            | false =>
                              go_wp2
                              go_ret
                              exact ⟨ret_bool (by rw [show _ = _ from HZ.out]; simp), HB.out⟩
                            | true =>
                              go_wp2
                              go_ret
                              exact ⟨ret_bool (by rw [show _ = _ from HZ.out]; simp), HB.out⟩
end Go.Proofs.Ytlokamblbhooaaa.code
