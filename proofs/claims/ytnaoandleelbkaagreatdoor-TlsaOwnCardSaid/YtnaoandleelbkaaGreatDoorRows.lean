/-
  NARROWER THAN 'FOR EVERY INPUT', by the rows' own cells (each row's printed sentence says how): CertNames: laid · CertTells: laid · TrustNames: laid · TrustJudges: laid · TlsaNames: laid · TlsaTells: laid · TlsaMatches: laid · TlsaMade: laid · TlsaOwn: laid · TlsaMore: laid.
  DERIVED. THE GIVEN ROWS OF THIS SEAT. 10 by the template 'for every input the law returns true; each argument reads behind the call as it read before'; 0 by the template 'total and deterministic' (their statements: YtnaoandleelbkaaGreatDoorTotals.lean).
  GIVEN WITH THE SEED: the statements are not yours to turn. If you find one false, say at which input.
  Laid BY PROGRAM, IN A SANDBOX (cutbox-rows.mjs): the forced cells as the released guide's own fill.sh prints them over the translation dbf046c7c7ea4c71… (all of the seat's roots in one cut). By AI agents, Wed Nov 11 2026. No macro, syntax, notation, axiom, sorry.
-/
import Derived.Test.YtnaoandleelbkaaGreatDoorChecked
import GoSem.PinnedTables
import GoSem.Claim
import GoSem.ClaimJoined
import GoSem.ClaimMapViews
import Derived.JoinedTies
import Derived.KernelRfl
namespace Go.Proofs.YtnaoandleelbkaaGreatDoor
/- THE CELL 'sum', in the pinned program and in every row, IS THE sha256 OF THE DUMP (.gsa) THAT YtnaoandleelbkaaGreatDoorProg.lean LOADS. Nothing in Lean hashes anything: it is a label: what it is worth is what the hold of that sum in a sandbox is worth. -/
noncomputable def Tryz.pinned : Pinned := { name := "ytnaoandleelbkaagreatdoor", sum := "dbf046c7c7ea4c71024d278a03c2e1595842d91f2e78f36a7582be0dd98a73ad", checked := Tryz.checked }
namespace Rows
def none {H : Type} : Left H := { results := [], args := [] }

/- WHAT THE LISTED PACKAGE-LEVEL VARIABLES READ AS WHEN THE CALL BEGINS. Each datum BY PROGRAM (the guide's laid-datum.mjs) off the statement by which the dump's own 'gosem.cut.vars' lays the variable. In a bare row this is a premise. The card (YtnaoandleelbkaaGreatDoorCards.lean) ties it to the program's text. -/
def laid_unicode_utf8_acceptRanges {H : Type} : DataW H := .agg [.agg [.lit (.int .u8 128), .lit (.int .u8 191)], .agg [.lit (.int .u8 160), .lit (.int .u8 191)], .agg [.lit (.int .u8 128), .lit (.int .u8 159)], .agg [.lit (.int .u8 144), .lit (.int .u8 191)], .agg [.lit (.int .u8 128), .lit (.int .u8 143)], .agg [.lit (.int .u8 0), .lit (.int .u8 0)], .agg [.lit (.int .u8 0), .lit (.int .u8 0)], .agg [.lit (.int .u8 0), .lit (.int .u8 0)], .agg [.lit (.int .u8 0), .lit (.int .u8 0)], .agg [.lit (.int .u8 0), .lit (.int .u8 0)], .agg [.lit (.int .u8 0), .lit (.int .u8 0)], .agg [.lit (.int .u8 0), .lit (.int .u8 0)], .agg [.lit (.int .u8 0), .lit (.int .u8 0)], .agg [.lit (.int .u8 0), .lit (.int .u8 0)], .agg [.lit (.int .u8 0), .lit (.int .u8 0)], .agg [.lit (.int .u8 0), .lit (.int .u8 0)]]
def laid_mailroom_code_firstWords {H : Type} : DataW H := .agg [.lit (.int .u32 1779033703), .lit (.int .u32 3144134277), .lit (.int .u32 1013904242), .lit (.int .u32 2773480762), .lit (.int .u32 1359893119), .lit (.int .u32 2600822924), .lit (.int .u32 528734635), .lit (.int .u32 1541459225)]
def laid_mailroom_code_roundWords {H : Type} : DataW H := .agg [.lit (.int .u32 1116352408), .lit (.int .u32 1899447441), .lit (.int .u32 3049323471), .lit (.int .u32 3921009573), .lit (.int .u32 961987163), .lit (.int .u32 1508970993), .lit (.int .u32 2453635748), .lit (.int .u32 2870763221), .lit (.int .u32 3624381080), .lit (.int .u32 310598401), .lit (.int .u32 607225278), .lit (.int .u32 1426881987), .lit (.int .u32 1925078388), .lit (.int .u32 2162078206), .lit (.int .u32 2614888103), .lit (.int .u32 3248222580), .lit (.int .u32 3835390401), .lit (.int .u32 4022224774), .lit (.int .u32 264347078), .lit (.int .u32 604807628), .lit (.int .u32 770255983), .lit (.int .u32 1249150122), .lit (.int .u32 1555081692), .lit (.int .u32 1996064986), .lit (.int .u32 2554220882), .lit (.int .u32 2821834349), .lit (.int .u32 2952996808), .lit (.int .u32 3210313671), .lit (.int .u32 3336571891), .lit (.int .u32 3584528711), .lit (.int .u32 113926993), .lit (.int .u32 338241895), .lit (.int .u32 666307205), .lit (.int .u32 773529912), .lit (.int .u32 1294757372), .lit (.int .u32 1396182291), .lit (.int .u32 1695183700), .lit (.int .u32 1986661051), .lit (.int .u32 2177026350), .lit (.int .u32 2456956037), .lit (.int .u32 2730485921), .lit (.int .u32 2820302411), .lit (.int .u32 3259730800), .lit (.int .u32 3345764771), .lit (.int .u32 3516065817), .lit (.int .u32 3600352804), .lit (.int .u32 4094571909), .lit (.int .u32 275423344), .lit (.int .u32 430227734), .lit (.int .u32 506948616), .lit (.int .u32 659060556), .lit (.int .u32 883997877), .lit (.int .u32 958139571), .lit (.int .u32 1322822218), .lit (.int .u32 1537002063), .lit (.int .u32 1747873779), .lit (.int .u32 1955562222), .lit (.int .u32 2024104815), .lit (.int .u32 2227730452), .lit (.int .u32 2361852424), .lit (.int .u32 2428436474), .lit (.int .u32 2756734187), .lit (.int .u32 3204031479), .lit (.int .u32 3329325298)]
def laid_mailroom_cert_tags {H : Type} : DataW H := .agg [.lit (.int .u8 48), .lit (.int .u8 4), .lit (.int .u8 48), .lit (.int .u8 2), .lit (.int .u8 2), .lit (.int .u8 1)]
/-- One of Go's own tables, pinned by name: the form's constant. -/
def laid_unicode_utf8_first : DataW Unit := Go.Pinned.utf8First
def laid_math_bits_deBruijn32tab {H : Type} : DataW H := .agg [.lit (.int .u8 0), .lit (.int .u8 1), .lit (.int .u8 28), .lit (.int .u8 2), .lit (.int .u8 29), .lit (.int .u8 14), .lit (.int .u8 24), .lit (.int .u8 3), .lit (.int .u8 30), .lit (.int .u8 22), .lit (.int .u8 20), .lit (.int .u8 15), .lit (.int .u8 25), .lit (.int .u8 17), .lit (.int .u8 4), .lit (.int .u8 8), .lit (.int .u8 31), .lit (.int .u8 27), .lit (.int .u8 13), .lit (.int .u8 23), .lit (.int .u8 21), .lit (.int .u8 19), .lit (.int .u8 16), .lit (.int .u8 7), .lit (.int .u8 26), .lit (.int .u8 12), .lit (.int .u8 18), .lit (.int .u8 6), .lit (.int .u8 11), .lit (.int .u8 5), .lit (.int .u8 10), .lit (.int .u8 9)]
def laid_math_bits_deBruijn64tab {H : Type} : DataW H := .agg [.lit (.int .u8 0), .lit (.int .u8 1), .lit (.int .u8 56), .lit (.int .u8 2), .lit (.int .u8 57), .lit (.int .u8 49), .lit (.int .u8 28), .lit (.int .u8 3), .lit (.int .u8 61), .lit (.int .u8 58), .lit (.int .u8 42), .lit (.int .u8 50), .lit (.int .u8 38), .lit (.int .u8 29), .lit (.int .u8 17), .lit (.int .u8 4), .lit (.int .u8 62), .lit (.int .u8 47), .lit (.int .u8 59), .lit (.int .u8 36), .lit (.int .u8 45), .lit (.int .u8 43), .lit (.int .u8 51), .lit (.int .u8 22), .lit (.int .u8 53), .lit (.int .u8 39), .lit (.int .u8 33), .lit (.int .u8 30), .lit (.int .u8 24), .lit (.int .u8 18), .lit (.int .u8 12), .lit (.int .u8 5), .lit (.int .u8 63), .lit (.int .u8 55), .lit (.int .u8 48), .lit (.int .u8 27), .lit (.int .u8 60), .lit (.int .u8 41), .lit (.int .u8 37), .lit (.int .u8 16), .lit (.int .u8 46), .lit (.int .u8 35), .lit (.int .u8 44), .lit (.int .u8 21), .lit (.int .u8 52), .lit (.int .u8 32), .lit (.int .u8 23), .lit (.int .u8 11), .lit (.int .u8 54), .lit (.int .u8 26), .lit (.int .u8 40), .lit (.int .u8 15), .lit (.int .u8 34), .lit (.int .u8 20), .lit (.int .u8 31), .lit (.int .u8 10), .lit (.int .u8 25), .lit (.int .u8 14), .lit (.int .u8 19), .lit (.int .u8 9), .lit (.int .u8 13), .lit (.int .u8 8), .lit (.int .u8 7), .lit (.int .u8 6)]
def laid_internal_strconv_uint64pow10 {H : Type} : DataW H := .agg [.lit (.int .u64 1), .lit (.int .u64 10), .lit (.int .u64 100), .lit (.int .u64 1000), .lit (.int .u64 10000), .lit (.int .u64 100000), .lit (.int .u64 1000000), .lit (.int .u64 10000000), .lit (.int .u64 100000000), .lit (.int .u64 1000000000), .lit (.int .u64 10000000000), .lit (.int .u64 100000000000), .lit (.int .u64 1000000000000), .lit (.int .u64 10000000000000), .lit (.int .u64 100000000000000), .lit (.int .u64 1000000000000000), .lit (.int .u64 10000000000000000), .lit (.int .u64 100000000000000000), .lit (.int .u64 1000000000000000000), .lit (.int .u64 10000000000000000000)]

/-- 'mailroomlaw14.CertNames': WHATEVER THE INPUT: true; the input reads as it did. -/
def certNamesSpec : ChangeSpec := { name := "certNames", fn := fun _ => fun
  | [] => { results := [.lit (.bool true)], args := [] }
  | _ => none }
def certNamesRow : OpenClaim := { program := "ytnaoandleelbkaagreatdoor", sum := "dbf046c7c7ea4c71024d278a03c2e1595842d91f2e78f36a7582be0dd98a73ad", func := "mailroom/mailroomlaw14.CertNames", spec := "certNames", inPlace := ["internal/bytealg.IndexByteString", "internal/bytealg.IndexString", "internal/abi.NoEscape", "internal/bytealg.MakeNoZero"], unfollowed := true, recurses := true, named := ["internal/bytealg.MaxLen", "unicode/utf8.first", "unicode/utf8.acceptRanges", "mailroom/cert.tags", "mailroom/code.firstWords", "mailroom/code.roundWords"], apart := false, laid := [("unicode/utf8.acceptRanges", laid_unicode_utf8_acceptRanges), ("mailroom/code.firstWords", laid_mailroom_code_firstWords), ("mailroom/code.roundWords", laid_mailroom_code_roundWords), ("mailroom/cert.tags", laid_mailroom_cert_tags), ("unicode/utf8.first", laid_unicode_utf8_first)] }
def CertNamesSaid : Prop := certNamesRow.holds Tryz.pinned (OpenSpec.ofChange certNamesSpec)

/-- ITS FALSE NEIGHBOUR: 'it returns false'. Refute it at one input. -/
def certNamesWrong : ChangeSpec := { name := "certNames", fn := fun _ => fun
  | [] => { results := [.lit (.bool false)], args := [] }
  | _ => none }
def CertNamesWrongFalsely : Prop := certNamesRow.holds Tryz.pinned (OpenSpec.ofChange certNamesWrong)

/-- 'mailroomlaw14.CertTells': WHATEVER THE INPUT: true; the input reads as it did. -/
def certTellsSpec : ChangeSpec := { name := "certTells", fn := fun _ => fun
  | [d1, d2, d3] => { results := [.lit (.bool true)], args := [d1, d2, d3] }
  | _ => none }
def certTellsRow : OpenClaim := { program := "ytnaoandleelbkaagreatdoor", sum := "dbf046c7c7ea4c71024d278a03c2e1595842d91f2e78f36a7582be0dd98a73ad", func := "mailroom/mailroomlaw14.CertTells", spec := "certTells", inPlace := ["internal/bytealg.IndexByteString", "internal/bytealg.IndexString", "internal/abi.NoEscape", "internal/bytealg.MakeNoZero"], unfollowed := true, recurses := true, named := ["internal/bytealg.MaxLen", "unicode/utf8.first", "unicode/utf8.acceptRanges", "mailroom/cert.tags", "mailroom/code.firstWords", "mailroom/code.roundWords"], apart := false, laid := [("unicode/utf8.acceptRanges", laid_unicode_utf8_acceptRanges), ("mailroom/code.firstWords", laid_mailroom_code_firstWords), ("mailroom/code.roundWords", laid_mailroom_code_roundWords), ("mailroom/cert.tags", laid_mailroom_cert_tags), ("unicode/utf8.first", laid_unicode_utf8_first)] }
def CertTellsSaid : Prop := certTellsRow.holds Tryz.pinned (OpenSpec.ofChange certTellsSpec)

/-- ITS FALSE NEIGHBOUR: 'it returns false'. Refute it at one input. -/
def certTellsWrong : ChangeSpec := { name := "certTells", fn := fun _ => fun
  | [d1, d2, d3] => { results := [.lit (.bool false)], args := [d1, d2, d3] }
  | _ => none }
def CertTellsWrongFalsely : Prop := certTellsRow.holds Tryz.pinned (OpenSpec.ofChange certTellsWrong)

/-- 'mailroomlaw15.TrustNames': WHATEVER THE INPUT: true; the input reads as it did. -/
def trustNamesSpec : ChangeSpec := { name := "trustNames", fn := fun _ => fun
  | [] => { results := [.lit (.bool true)], args := [] }
  | _ => none }
def trustNamesRow : OpenClaim := { program := "ytnaoandleelbkaagreatdoor", sum := "dbf046c7c7ea4c71024d278a03c2e1595842d91f2e78f36a7582be0dd98a73ad", func := "mailroom/mailroomlaw15.TrustNames", spec := "trustNames", inPlace := ["internal/abi.NoEscape", "internal/bytealg.MakeNoZero", "internal/bytealg.IndexByteString", "internal/bytealg.IndexString"], unfollowed := true, recurses := true, named := ["mailroom/code.firstWords", "mailroom/code.roundWords", "internal/bytealg.MaxLen", "unicode/utf8.first", "unicode/utf8.acceptRanges", "mailroom/cert.tags"], apart := false, laid := [("unicode/utf8.acceptRanges", laid_unicode_utf8_acceptRanges), ("mailroom/code.firstWords", laid_mailroom_code_firstWords), ("mailroom/code.roundWords", laid_mailroom_code_roundWords), ("mailroom/cert.tags", laid_mailroom_cert_tags), ("unicode/utf8.first", laid_unicode_utf8_first)] }
def TrustNamesSaid : Prop := trustNamesRow.holds Tryz.pinned (OpenSpec.ofChange trustNamesSpec)

/-- ITS FALSE NEIGHBOUR: 'it returns false'. Refute it at one input. -/
def trustNamesWrong : ChangeSpec := { name := "trustNames", fn := fun _ => fun
  | [] => { results := [.lit (.bool false)], args := [] }
  | _ => none }
def TrustNamesWrongFalsely : Prop := trustNamesRow.holds Tryz.pinned (OpenSpec.ofChange trustNamesWrong)

/-- 'mailroomlaw15.TrustJudges': WHATEVER THE INPUT: true; the input reads as it did. -/
def trustJudgesSpec : ChangeSpec := { name := "trustJudges", fn := fun _ => fun
  | [d1, d2, d3, d4] => { results := [.lit (.bool true)], args := [d1, d2, d3, d4] }
  | _ => none }
def trustJudgesRow : OpenClaim := { program := "ytnaoandleelbkaagreatdoor", sum := "dbf046c7c7ea4c71024d278a03c2e1595842d91f2e78f36a7582be0dd98a73ad", func := "mailroom/mailroomlaw15.TrustJudges", spec := "trustJudges", inPlace := ["internal/abi.NoEscape", "internal/bytealg.MakeNoZero", "internal/bytealg.IndexByteString", "internal/bytealg.IndexString"], unfollowed := true, recurses := true, named := ["mailroom/code.firstWords", "mailroom/code.roundWords", "internal/bytealg.MaxLen", "unicode/utf8.first", "unicode/utf8.acceptRanges", "mailroom/cert.tags"], apart := false, laid := [("unicode/utf8.acceptRanges", laid_unicode_utf8_acceptRanges), ("mailroom/code.firstWords", laid_mailroom_code_firstWords), ("mailroom/code.roundWords", laid_mailroom_code_roundWords), ("mailroom/cert.tags", laid_mailroom_cert_tags), ("unicode/utf8.first", laid_unicode_utf8_first)] }
def TrustJudgesSaid : Prop := trustJudgesRow.holds Tryz.pinned (OpenSpec.ofChange trustJudgesSpec)

/-- ITS FALSE NEIGHBOUR: 'it returns false'. Refute it at one input. -/
def trustJudgesWrong : ChangeSpec := { name := "trustJudges", fn := fun _ => fun
  | [d1, d2, d3, d4] => { results := [.lit (.bool false)], args := [d1, d2, d3, d4] }
  | _ => none }
def TrustJudgesWrongFalsely : Prop := trustJudgesRow.holds Tryz.pinned (OpenSpec.ofChange trustJudgesWrong)

/-- 'mailroomlaw16.TlsaNames': WHATEVER THE INPUT: true; the input reads as it did. -/
def tlsaNamesSpec : ChangeSpec := { name := "tlsaNames", fn := fun _ => fun
  | [] => { results := [.lit (.bool true)], args := [] }
  | _ => none }
def tlsaNamesRow : OpenClaim := { program := "ytnaoandleelbkaagreatdoor", sum := "dbf046c7c7ea4c71024d278a03c2e1595842d91f2e78f36a7582be0dd98a73ad", func := "mailroom/mailroomlaw16.TlsaNames", spec := "tlsaNames", inPlace := ["internal/abi.NoEscape", "internal/bytealg.MakeNoZero", "internal/bytealg.IndexByteString", "internal/bytealg.IndexString", "internal/bytealg.CountString"], unfollowed := true, recurses := true, named := ["mailroom/code.firstWords", "mailroom/code.roundWords", "internal/bytealg.MaxLen", "unicode/utf8.first", "unicode/utf8.acceptRanges", "mailroom/cert.tags", "internal/strconv.uint64pow10", "math/bits.deBruijn32tab", "math/bits.deBruijn64tab"], apart := false, laid := [("math/bits.deBruijn32tab", laid_math_bits_deBruijn32tab), ("math/bits.deBruijn64tab", laid_math_bits_deBruijn64tab), ("internal/strconv.uint64pow10", laid_internal_strconv_uint64pow10), ("unicode/utf8.acceptRanges", laid_unicode_utf8_acceptRanges), ("mailroom/code.firstWords", laid_mailroom_code_firstWords), ("mailroom/code.roundWords", laid_mailroom_code_roundWords), ("mailroom/cert.tags", laid_mailroom_cert_tags), ("unicode/utf8.first", laid_unicode_utf8_first)] }
def TlsaNamesSaid : Prop := tlsaNamesRow.holds Tryz.pinned (OpenSpec.ofChange tlsaNamesSpec)

/-- ITS FALSE NEIGHBOUR: 'it returns false'. Refute it at one input. -/
def tlsaNamesWrong : ChangeSpec := { name := "tlsaNames", fn := fun _ => fun
  | [] => { results := [.lit (.bool false)], args := [] }
  | _ => none }
def TlsaNamesWrongFalsely : Prop := tlsaNamesRow.holds Tryz.pinned (OpenSpec.ofChange tlsaNamesWrong)

/-- 'mailroomlaw16.TlsaTells': WHATEVER THE INPUT: true; the input reads as it did. -/
def tlsaTellsSpec : ChangeSpec := { name := "tlsaTells", fn := fun _ => fun
  | [d1, d2, d3, d4] => { results := [.lit (.bool true)], args := [d1, d2, d3, d4] }
  | _ => none }
def tlsaTellsRow : OpenClaim := { program := "ytnaoandleelbkaagreatdoor", sum := "dbf046c7c7ea4c71024d278a03c2e1595842d91f2e78f36a7582be0dd98a73ad", func := "mailroom/mailroomlaw16.TlsaTells", spec := "tlsaTells", inPlace := ["internal/abi.NoEscape", "internal/bytealg.MakeNoZero", "internal/bytealg.IndexByteString", "internal/bytealg.IndexString", "internal/bytealg.CountString"], unfollowed := true, recurses := true, named := ["mailroom/code.firstWords", "mailroom/code.roundWords", "internal/bytealg.MaxLen", "unicode/utf8.first", "unicode/utf8.acceptRanges", "mailroom/cert.tags", "internal/strconv.uint64pow10", "math/bits.deBruijn32tab", "math/bits.deBruijn64tab"], apart := false, laid := [("math/bits.deBruijn32tab", laid_math_bits_deBruijn32tab), ("math/bits.deBruijn64tab", laid_math_bits_deBruijn64tab), ("internal/strconv.uint64pow10", laid_internal_strconv_uint64pow10), ("unicode/utf8.acceptRanges", laid_unicode_utf8_acceptRanges), ("mailroom/code.firstWords", laid_mailroom_code_firstWords), ("mailroom/code.roundWords", laid_mailroom_code_roundWords), ("mailroom/cert.tags", laid_mailroom_cert_tags), ("unicode/utf8.first", laid_unicode_utf8_first)] }
def TlsaTellsSaid : Prop := tlsaTellsRow.holds Tryz.pinned (OpenSpec.ofChange tlsaTellsSpec)

/-- ITS FALSE NEIGHBOUR: 'it returns false'. Refute it at one input. -/
def tlsaTellsWrong : ChangeSpec := { name := "tlsaTells", fn := fun _ => fun
  | [d1, d2, d3, d4] => { results := [.lit (.bool false)], args := [d1, d2, d3, d4] }
  | _ => none }
def TlsaTellsWrongFalsely : Prop := tlsaTellsRow.holds Tryz.pinned (OpenSpec.ofChange tlsaTellsWrong)

/-- 'mailroomlaw16.TlsaMatches': WHATEVER THE INPUT: true; the input reads as it did. -/
def tlsaMatchesSpec : ChangeSpec := { name := "tlsaMatches", fn := fun _ => fun
  | [d1, d2, d3, d4, d5] => { results := [.lit (.bool true)], args := [d1, d2, d3, d4, d5] }
  | _ => none }
def tlsaMatchesRow : OpenClaim := { program := "ytnaoandleelbkaagreatdoor", sum := "dbf046c7c7ea4c71024d278a03c2e1595842d91f2e78f36a7582be0dd98a73ad", func := "mailroom/mailroomlaw16.TlsaMatches", spec := "tlsaMatches", inPlace := ["internal/abi.NoEscape", "internal/bytealg.MakeNoZero", "internal/bytealg.IndexByteString", "internal/bytealg.IndexString"], unfollowed := true, recurses := true, named := ["mailroom/code.firstWords", "mailroom/code.roundWords", "internal/bytealg.MaxLen", "unicode/utf8.first", "unicode/utf8.acceptRanges", "mailroom/cert.tags", "internal/strconv.uint64pow10", "math/bits.deBruijn32tab", "math/bits.deBruijn64tab"], apart := false, laid := [("math/bits.deBruijn32tab", laid_math_bits_deBruijn32tab), ("math/bits.deBruijn64tab", laid_math_bits_deBruijn64tab), ("internal/strconv.uint64pow10", laid_internal_strconv_uint64pow10), ("unicode/utf8.acceptRanges", laid_unicode_utf8_acceptRanges), ("mailroom/code.firstWords", laid_mailroom_code_firstWords), ("mailroom/code.roundWords", laid_mailroom_code_roundWords), ("mailroom/cert.tags", laid_mailroom_cert_tags), ("unicode/utf8.first", laid_unicode_utf8_first)] }
def TlsaMatchesSaid : Prop := tlsaMatchesRow.holds Tryz.pinned (OpenSpec.ofChange tlsaMatchesSpec)

/-- ITS FALSE NEIGHBOUR: 'it returns false'. Refute it at one input. -/
def tlsaMatchesWrong : ChangeSpec := { name := "tlsaMatches", fn := fun _ => fun
  | [d1, d2, d3, d4, d5] => { results := [.lit (.bool false)], args := [d1, d2, d3, d4, d5] }
  | _ => none }
def TlsaMatchesWrongFalsely : Prop := tlsaMatchesRow.holds Tryz.pinned (OpenSpec.ofChange tlsaMatchesWrong)

/-- 'mailroomlaw16.TlsaMade': WHATEVER THE INPUT: true; the input reads as it did. -/
def tlsaMadeSpec : ChangeSpec := { name := "tlsaMade", fn := fun _ => fun
  | [d1, d2, d3, d4, d5, d6, d7] => { results := [.lit (.bool true)], args := [d1, d2, d3, d4, d5, d6, d7] }
  | _ => none }
def tlsaMadeRow : OpenClaim := { program := "ytnaoandleelbkaagreatdoor", sum := "dbf046c7c7ea4c71024d278a03c2e1595842d91f2e78f36a7582be0dd98a73ad", func := "mailroom/mailroomlaw16.TlsaMade", spec := "tlsaMade", inPlace := ["internal/abi.NoEscape", "internal/bytealg.MakeNoZero", "internal/bytealg.IndexByteString", "internal/bytealg.IndexString", "internal/bytealg.CountString"], unfollowed := true, recurses := true, named := ["mailroom/code.firstWords", "mailroom/code.roundWords", "internal/bytealg.MaxLen", "unicode/utf8.first", "unicode/utf8.acceptRanges", "mailroom/cert.tags", "internal/strconv.uint64pow10", "math/bits.deBruijn32tab", "math/bits.deBruijn64tab"], apart := false, laid := [("math/bits.deBruijn32tab", laid_math_bits_deBruijn32tab), ("math/bits.deBruijn64tab", laid_math_bits_deBruijn64tab), ("internal/strconv.uint64pow10", laid_internal_strconv_uint64pow10), ("unicode/utf8.acceptRanges", laid_unicode_utf8_acceptRanges), ("mailroom/code.firstWords", laid_mailroom_code_firstWords), ("mailroom/code.roundWords", laid_mailroom_code_roundWords), ("mailroom/cert.tags", laid_mailroom_cert_tags), ("unicode/utf8.first", laid_unicode_utf8_first)] }
def TlsaMadeSaid : Prop := tlsaMadeRow.holds Tryz.pinned (OpenSpec.ofChange tlsaMadeSpec)

/-- ITS FALSE NEIGHBOUR: 'it returns false'. Refute it at one input. -/
def tlsaMadeWrong : ChangeSpec := { name := "tlsaMade", fn := fun _ => fun
  | [d1, d2, d3, d4, d5, d6, d7] => { results := [.lit (.bool false)], args := [d1, d2, d3, d4, d5, d6, d7] }
  | _ => none }
def TlsaMadeWrongFalsely : Prop := tlsaMadeRow.holds Tryz.pinned (OpenSpec.ofChange tlsaMadeWrong)

/-- 'mailroomlaw16.TlsaOwn': WHATEVER THE INPUT: true; the input reads as it did. -/
def tlsaOwnSpec : ChangeSpec := { name := "tlsaOwn", fn := fun _ => fun
  | [d1, d2, d3, d4, d5, d6, d7] => { results := [.lit (.bool true)], args := [d1, d2, d3, d4, d5, d6, d7] }
  | _ => none }
def tlsaOwnRow : OpenClaim := { program := "ytnaoandleelbkaagreatdoor", sum := "dbf046c7c7ea4c71024d278a03c2e1595842d91f2e78f36a7582be0dd98a73ad", func := "mailroom/mailroomlaw16.TlsaOwn", spec := "tlsaOwn", inPlace := ["internal/abi.NoEscape", "internal/bytealg.MakeNoZero", "internal/bytealg.IndexByteString", "internal/bytealg.IndexString"], unfollowed := true, recurses := true, named := ["mailroom/code.firstWords", "mailroom/code.roundWords", "internal/bytealg.MaxLen", "unicode/utf8.first", "unicode/utf8.acceptRanges", "mailroom/cert.tags", "internal/strconv.uint64pow10", "math/bits.deBruijn32tab", "math/bits.deBruijn64tab"], apart := false, laid := [("math/bits.deBruijn32tab", laid_math_bits_deBruijn32tab), ("math/bits.deBruijn64tab", laid_math_bits_deBruijn64tab), ("internal/strconv.uint64pow10", laid_internal_strconv_uint64pow10), ("unicode/utf8.acceptRanges", laid_unicode_utf8_acceptRanges), ("mailroom/code.firstWords", laid_mailroom_code_firstWords), ("mailroom/code.roundWords", laid_mailroom_code_roundWords), ("mailroom/cert.tags", laid_mailroom_cert_tags), ("unicode/utf8.first", laid_unicode_utf8_first)] }
def TlsaOwnSaid : Prop := tlsaOwnRow.holds Tryz.pinned (OpenSpec.ofChange tlsaOwnSpec)

/-- ITS FALSE NEIGHBOUR: 'it returns false'. Refute it at one input. -/
def tlsaOwnWrong : ChangeSpec := { name := "tlsaOwn", fn := fun _ => fun
  | [d1, d2, d3, d4, d5, d6, d7] => { results := [.lit (.bool false)], args := [d1, d2, d3, d4, d5, d6, d7] }
  | _ => none }
def TlsaOwnWrongFalsely : Prop := tlsaOwnRow.holds Tryz.pinned (OpenSpec.ofChange tlsaOwnWrong)

/-- 'mailroomlaw16.TlsaMore': WHATEVER THE INPUT: true; the input reads as it did. -/
def tlsaMoreSpec : ChangeSpec := { name := "tlsaMore", fn := fun _ => fun
  | [d1, d2, d3, d4, d5] => { results := [.lit (.bool true)], args := [d1, d2, d3, d4, d5] }
  | _ => none }
def tlsaMoreRow : OpenClaim := { program := "ytnaoandleelbkaagreatdoor", sum := "dbf046c7c7ea4c71024d278a03c2e1595842d91f2e78f36a7582be0dd98a73ad", func := "mailroom/mailroomlaw16.TlsaMore", spec := "tlsaMore", inPlace := ["internal/abi.NoEscape", "internal/bytealg.MakeNoZero", "internal/bytealg.IndexByteString", "internal/bytealg.IndexString"], unfollowed := true, recurses := true, named := ["mailroom/code.firstWords", "mailroom/code.roundWords", "internal/bytealg.MaxLen", "unicode/utf8.first", "unicode/utf8.acceptRanges", "mailroom/cert.tags", "internal/strconv.uint64pow10", "math/bits.deBruijn32tab", "math/bits.deBruijn64tab"], apart := false, laid := [("math/bits.deBruijn32tab", laid_math_bits_deBruijn32tab), ("math/bits.deBruijn64tab", laid_math_bits_deBruijn64tab), ("internal/strconv.uint64pow10", laid_internal_strconv_uint64pow10), ("unicode/utf8.acceptRanges", laid_unicode_utf8_acceptRanges), ("mailroom/code.firstWords", laid_mailroom_code_firstWords), ("mailroom/code.roundWords", laid_mailroom_code_roundWords), ("mailroom/cert.tags", laid_mailroom_cert_tags), ("unicode/utf8.first", laid_unicode_utf8_first)] }
def TlsaMoreSaid : Prop := tlsaMoreRow.holds Tryz.pinned (OpenSpec.ofChange tlsaMoreSpec)

/-- ITS FALSE NEIGHBOUR: 'it returns false'. Refute it at one input. -/
def tlsaMoreWrong : ChangeSpec := { name := "tlsaMore", fn := fun _ => fun
  | [d1, d2, d3, d4, d5] => { results := [.lit (.bool false)], args := [d1, d2, d3, d4, d5] }
  | _ => none }
def TlsaMoreWrongFalsely : Prop := tlsaMoreRow.holds Tryz.pinned (OpenSpec.ofChange tlsaMoreWrong)

/- THE SECOND FORM. 'bulk': how many values and letters a reading holds, each counted each time it is reached (what is shared counts as often as it is met; a slice's spare places count too). A statement '..UptoSaid' is the law's where the arguments, and the package variables that the reading takes, are together of bulk at most 1048576: NARROWER than '..Said'. Prove '..Said' where nothing that the law and all that it calls make is longer than what came in: it says more and counts as full. Else prove '..UptoSaid'. A law counts once. -/
mutual
def uptoBulk {H : Type} : DataW H → Nat
  | .lit (.string bytes) => bytes.length + 1
  | .lit _ => 1
  | .nil => 1
  | .ptr d => uptoBulk d + 1
  | .slice elems spare => uptoBulkAll elems + uptoBulkAll spare + 1
  | .agg parts => uptoBulkAll parts + 1
  | .iface _ d => uptoBulk d + 1
  | .map entries => uptoBulkEntries entries + 1
  | .held _ => 1
def uptoBulkAll {H : Type} : List (DataW H) → Nat
  | [] => 0
  | d :: r => uptoBulk d + uptoBulkAll r
def uptoBulkEntries {H : Type} : List (Lit × DataW H) → Nat
  | [] => 0
  | x :: r => uptoBulkEntry x + uptoBulkEntries r
def uptoBulkEntry {H : Type} : Lit × DataW H → Nat
  | (.string bytes, d) => bytes.length + uptoBulk d + 1
  | (_, d) => uptoBulk d + 1
 end
def uptoSmall : (H : Type) → List (DataW H) → Bool := fun _ ds => decide (uptoBulkAll ds ≤ 1048576)
def OpenSpec.upto (s : _root_.Go.ChangeSpec) : _root_.Go.OpenSpec := { _root_.Go.OpenSpec.ofChange s with cond := some uptoSmall }

/-- 'mailroomlaw14.CertNames', WHERE WHAT IT READS IS OF BULK AT MOST 1048576: true; the input reads as it did. -/
def certNamesUptoRow : OpenClaim := { program := "ytnaoandleelbkaagreatdoor", sum := "dbf046c7c7ea4c71024d278a03c2e1595842d91f2e78f36a7582be0dd98a73ad", func := "mailroom/mailroomlaw14.CertNames", spec := "certNames", inPlace := ["internal/bytealg.IndexByteString", "internal/bytealg.IndexString", "internal/abi.NoEscape", "internal/bytealg.MakeNoZero"], unfollowed := true, recurses := true, named := ["internal/bytealg.MaxLen", "unicode/utf8.first", "unicode/utf8.acceptRanges", "mailroom/cert.tags", "mailroom/code.firstWords", "mailroom/code.roundWords"], apart := false, laid := [("unicode/utf8.acceptRanges", laid_unicode_utf8_acceptRanges), ("mailroom/code.firstWords", laid_mailroom_code_firstWords), ("mailroom/code.roundWords", laid_mailroom_code_roundWords), ("mailroom/cert.tags", laid_mailroom_cert_tags), ("unicode/utf8.first", laid_unicode_utf8_first)], narrowed := true }
def CertNamesUptoSaid : Prop := certNamesUptoRow.holds Tryz.pinned (OpenSpec.upto certNamesSpec)

/-- 'mailroomlaw14.CertTells', WHERE WHAT IT READS IS OF BULK AT MOST 1048576: true; the input reads as it did. -/
def certTellsUptoRow : OpenClaim := { program := "ytnaoandleelbkaagreatdoor", sum := "dbf046c7c7ea4c71024d278a03c2e1595842d91f2e78f36a7582be0dd98a73ad", func := "mailroom/mailroomlaw14.CertTells", spec := "certTells", inPlace := ["internal/bytealg.IndexByteString", "internal/bytealg.IndexString", "internal/abi.NoEscape", "internal/bytealg.MakeNoZero"], unfollowed := true, recurses := true, named := ["internal/bytealg.MaxLen", "unicode/utf8.first", "unicode/utf8.acceptRanges", "mailroom/cert.tags", "mailroom/code.firstWords", "mailroom/code.roundWords"], apart := false, laid := [("unicode/utf8.acceptRanges", laid_unicode_utf8_acceptRanges), ("mailroom/code.firstWords", laid_mailroom_code_firstWords), ("mailroom/code.roundWords", laid_mailroom_code_roundWords), ("mailroom/cert.tags", laid_mailroom_cert_tags), ("unicode/utf8.first", laid_unicode_utf8_first)], narrowed := true }
def CertTellsUptoSaid : Prop := certTellsUptoRow.holds Tryz.pinned (OpenSpec.upto certTellsSpec)

/-- 'mailroomlaw15.TrustNames', WHERE WHAT IT READS IS OF BULK AT MOST 1048576: true; the input reads as it did. -/
def trustNamesUptoRow : OpenClaim := { program := "ytnaoandleelbkaagreatdoor", sum := "dbf046c7c7ea4c71024d278a03c2e1595842d91f2e78f36a7582be0dd98a73ad", func := "mailroom/mailroomlaw15.TrustNames", spec := "trustNames", inPlace := ["internal/abi.NoEscape", "internal/bytealg.MakeNoZero", "internal/bytealg.IndexByteString", "internal/bytealg.IndexString"], unfollowed := true, recurses := true, named := ["mailroom/code.firstWords", "mailroom/code.roundWords", "internal/bytealg.MaxLen", "unicode/utf8.first", "unicode/utf8.acceptRanges", "mailroom/cert.tags"], apart := false, laid := [("unicode/utf8.acceptRanges", laid_unicode_utf8_acceptRanges), ("mailroom/code.firstWords", laid_mailroom_code_firstWords), ("mailroom/code.roundWords", laid_mailroom_code_roundWords), ("mailroom/cert.tags", laid_mailroom_cert_tags), ("unicode/utf8.first", laid_unicode_utf8_first)], narrowed := true }
def TrustNamesUptoSaid : Prop := trustNamesUptoRow.holds Tryz.pinned (OpenSpec.upto trustNamesSpec)

/-- 'mailroomlaw15.TrustJudges', WHERE WHAT IT READS IS OF BULK AT MOST 1048576: true; the input reads as it did. -/
def trustJudgesUptoRow : OpenClaim := { program := "ytnaoandleelbkaagreatdoor", sum := "dbf046c7c7ea4c71024d278a03c2e1595842d91f2e78f36a7582be0dd98a73ad", func := "mailroom/mailroomlaw15.TrustJudges", spec := "trustJudges", inPlace := ["internal/abi.NoEscape", "internal/bytealg.MakeNoZero", "internal/bytealg.IndexByteString", "internal/bytealg.IndexString"], unfollowed := true, recurses := true, named := ["mailroom/code.firstWords", "mailroom/code.roundWords", "internal/bytealg.MaxLen", "unicode/utf8.first", "unicode/utf8.acceptRanges", "mailroom/cert.tags"], apart := false, laid := [("unicode/utf8.acceptRanges", laid_unicode_utf8_acceptRanges), ("mailroom/code.firstWords", laid_mailroom_code_firstWords), ("mailroom/code.roundWords", laid_mailroom_code_roundWords), ("mailroom/cert.tags", laid_mailroom_cert_tags), ("unicode/utf8.first", laid_unicode_utf8_first)], narrowed := true }
def TrustJudgesUptoSaid : Prop := trustJudgesUptoRow.holds Tryz.pinned (OpenSpec.upto trustJudgesSpec)

/-- 'mailroomlaw16.TlsaNames', WHERE WHAT IT READS IS OF BULK AT MOST 1048576: true; the input reads as it did. -/
def tlsaNamesUptoRow : OpenClaim := { program := "ytnaoandleelbkaagreatdoor", sum := "dbf046c7c7ea4c71024d278a03c2e1595842d91f2e78f36a7582be0dd98a73ad", func := "mailroom/mailroomlaw16.TlsaNames", spec := "tlsaNames", inPlace := ["internal/abi.NoEscape", "internal/bytealg.MakeNoZero", "internal/bytealg.IndexByteString", "internal/bytealg.IndexString", "internal/bytealg.CountString"], unfollowed := true, recurses := true, named := ["mailroom/code.firstWords", "mailroom/code.roundWords", "internal/bytealg.MaxLen", "unicode/utf8.first", "unicode/utf8.acceptRanges", "mailroom/cert.tags", "internal/strconv.uint64pow10", "math/bits.deBruijn32tab", "math/bits.deBruijn64tab"], apart := false, laid := [("math/bits.deBruijn32tab", laid_math_bits_deBruijn32tab), ("math/bits.deBruijn64tab", laid_math_bits_deBruijn64tab), ("internal/strconv.uint64pow10", laid_internal_strconv_uint64pow10), ("unicode/utf8.acceptRanges", laid_unicode_utf8_acceptRanges), ("mailroom/code.firstWords", laid_mailroom_code_firstWords), ("mailroom/code.roundWords", laid_mailroom_code_roundWords), ("mailroom/cert.tags", laid_mailroom_cert_tags), ("unicode/utf8.first", laid_unicode_utf8_first)], narrowed := true }
def TlsaNamesUptoSaid : Prop := tlsaNamesUptoRow.holds Tryz.pinned (OpenSpec.upto tlsaNamesSpec)

/-- 'mailroomlaw16.TlsaTells', WHERE WHAT IT READS IS OF BULK AT MOST 1048576: true; the input reads as it did. -/
def tlsaTellsUptoRow : OpenClaim := { program := "ytnaoandleelbkaagreatdoor", sum := "dbf046c7c7ea4c71024d278a03c2e1595842d91f2e78f36a7582be0dd98a73ad", func := "mailroom/mailroomlaw16.TlsaTells", spec := "tlsaTells", inPlace := ["internal/abi.NoEscape", "internal/bytealg.MakeNoZero", "internal/bytealg.IndexByteString", "internal/bytealg.IndexString", "internal/bytealg.CountString"], unfollowed := true, recurses := true, named := ["mailroom/code.firstWords", "mailroom/code.roundWords", "internal/bytealg.MaxLen", "unicode/utf8.first", "unicode/utf8.acceptRanges", "mailroom/cert.tags", "internal/strconv.uint64pow10", "math/bits.deBruijn32tab", "math/bits.deBruijn64tab"], apart := false, laid := [("math/bits.deBruijn32tab", laid_math_bits_deBruijn32tab), ("math/bits.deBruijn64tab", laid_math_bits_deBruijn64tab), ("internal/strconv.uint64pow10", laid_internal_strconv_uint64pow10), ("unicode/utf8.acceptRanges", laid_unicode_utf8_acceptRanges), ("mailroom/code.firstWords", laid_mailroom_code_firstWords), ("mailroom/code.roundWords", laid_mailroom_code_roundWords), ("mailroom/cert.tags", laid_mailroom_cert_tags), ("unicode/utf8.first", laid_unicode_utf8_first)], narrowed := true }
def TlsaTellsUptoSaid : Prop := tlsaTellsUptoRow.holds Tryz.pinned (OpenSpec.upto tlsaTellsSpec)

/-- 'mailroomlaw16.TlsaMatches', WHERE WHAT IT READS IS OF BULK AT MOST 1048576: true; the input reads as it did. -/
def tlsaMatchesUptoRow : OpenClaim := { program := "ytnaoandleelbkaagreatdoor", sum := "dbf046c7c7ea4c71024d278a03c2e1595842d91f2e78f36a7582be0dd98a73ad", func := "mailroom/mailroomlaw16.TlsaMatches", spec := "tlsaMatches", inPlace := ["internal/abi.NoEscape", "internal/bytealg.MakeNoZero", "internal/bytealg.IndexByteString", "internal/bytealg.IndexString"], unfollowed := true, recurses := true, named := ["mailroom/code.firstWords", "mailroom/code.roundWords", "internal/bytealg.MaxLen", "unicode/utf8.first", "unicode/utf8.acceptRanges", "mailroom/cert.tags", "internal/strconv.uint64pow10", "math/bits.deBruijn32tab", "math/bits.deBruijn64tab"], apart := false, laid := [("math/bits.deBruijn32tab", laid_math_bits_deBruijn32tab), ("math/bits.deBruijn64tab", laid_math_bits_deBruijn64tab), ("internal/strconv.uint64pow10", laid_internal_strconv_uint64pow10), ("unicode/utf8.acceptRanges", laid_unicode_utf8_acceptRanges), ("mailroom/code.firstWords", laid_mailroom_code_firstWords), ("mailroom/code.roundWords", laid_mailroom_code_roundWords), ("mailroom/cert.tags", laid_mailroom_cert_tags), ("unicode/utf8.first", laid_unicode_utf8_first)], narrowed := true }
def TlsaMatchesUptoSaid : Prop := tlsaMatchesUptoRow.holds Tryz.pinned (OpenSpec.upto tlsaMatchesSpec)

/-- 'mailroomlaw16.TlsaMade', WHERE WHAT IT READS IS OF BULK AT MOST 1048576: true; the input reads as it did. -/
def tlsaMadeUptoRow : OpenClaim := { program := "ytnaoandleelbkaagreatdoor", sum := "dbf046c7c7ea4c71024d278a03c2e1595842d91f2e78f36a7582be0dd98a73ad", func := "mailroom/mailroomlaw16.TlsaMade", spec := "tlsaMade", inPlace := ["internal/abi.NoEscape", "internal/bytealg.MakeNoZero", "internal/bytealg.IndexByteString", "internal/bytealg.IndexString", "internal/bytealg.CountString"], unfollowed := true, recurses := true, named := ["mailroom/code.firstWords", "mailroom/code.roundWords", "internal/bytealg.MaxLen", "unicode/utf8.first", "unicode/utf8.acceptRanges", "mailroom/cert.tags", "internal/strconv.uint64pow10", "math/bits.deBruijn32tab", "math/bits.deBruijn64tab"], apart := false, laid := [("math/bits.deBruijn32tab", laid_math_bits_deBruijn32tab), ("math/bits.deBruijn64tab", laid_math_bits_deBruijn64tab), ("internal/strconv.uint64pow10", laid_internal_strconv_uint64pow10), ("unicode/utf8.acceptRanges", laid_unicode_utf8_acceptRanges), ("mailroom/code.firstWords", laid_mailroom_code_firstWords), ("mailroom/code.roundWords", laid_mailroom_code_roundWords), ("mailroom/cert.tags", laid_mailroom_cert_tags), ("unicode/utf8.first", laid_unicode_utf8_first)], narrowed := true }
def TlsaMadeUptoSaid : Prop := tlsaMadeUptoRow.holds Tryz.pinned (OpenSpec.upto tlsaMadeSpec)

/-- 'mailroomlaw16.TlsaOwn', WHERE WHAT IT READS IS OF BULK AT MOST 1048576: true; the input reads as it did. -/
def tlsaOwnUptoRow : OpenClaim := { program := "ytnaoandleelbkaagreatdoor", sum := "dbf046c7c7ea4c71024d278a03c2e1595842d91f2e78f36a7582be0dd98a73ad", func := "mailroom/mailroomlaw16.TlsaOwn", spec := "tlsaOwn", inPlace := ["internal/abi.NoEscape", "internal/bytealg.MakeNoZero", "internal/bytealg.IndexByteString", "internal/bytealg.IndexString"], unfollowed := true, recurses := true, named := ["mailroom/code.firstWords", "mailroom/code.roundWords", "internal/bytealg.MaxLen", "unicode/utf8.first", "unicode/utf8.acceptRanges", "mailroom/cert.tags", "internal/strconv.uint64pow10", "math/bits.deBruijn32tab", "math/bits.deBruijn64tab"], apart := false, laid := [("math/bits.deBruijn32tab", laid_math_bits_deBruijn32tab), ("math/bits.deBruijn64tab", laid_math_bits_deBruijn64tab), ("internal/strconv.uint64pow10", laid_internal_strconv_uint64pow10), ("unicode/utf8.acceptRanges", laid_unicode_utf8_acceptRanges), ("mailroom/code.firstWords", laid_mailroom_code_firstWords), ("mailroom/code.roundWords", laid_mailroom_code_roundWords), ("mailroom/cert.tags", laid_mailroom_cert_tags), ("unicode/utf8.first", laid_unicode_utf8_first)], narrowed := true }
def TlsaOwnUptoSaid : Prop := tlsaOwnUptoRow.holds Tryz.pinned (OpenSpec.upto tlsaOwnSpec)

/-- 'mailroomlaw16.TlsaMore', WHERE WHAT IT READS IS OF BULK AT MOST 1048576: true; the input reads as it did. -/
def tlsaMoreUptoRow : OpenClaim := { program := "ytnaoandleelbkaagreatdoor", sum := "dbf046c7c7ea4c71024d278a03c2e1595842d91f2e78f36a7582be0dd98a73ad", func := "mailroom/mailroomlaw16.TlsaMore", spec := "tlsaMore", inPlace := ["internal/abi.NoEscape", "internal/bytealg.MakeNoZero", "internal/bytealg.IndexByteString", "internal/bytealg.IndexString"], unfollowed := true, recurses := true, named := ["mailroom/code.firstWords", "mailroom/code.roundWords", "internal/bytealg.MaxLen", "unicode/utf8.first", "unicode/utf8.acceptRanges", "mailroom/cert.tags", "internal/strconv.uint64pow10", "math/bits.deBruijn32tab", "math/bits.deBruijn64tab"], apart := false, laid := [("math/bits.deBruijn32tab", laid_math_bits_deBruijn32tab), ("math/bits.deBruijn64tab", laid_math_bits_deBruijn64tab), ("internal/strconv.uint64pow10", laid_internal_strconv_uint64pow10), ("unicode/utf8.acceptRanges", laid_unicode_utf8_acceptRanges), ("mailroom/code.firstWords", laid_mailroom_code_firstWords), ("mailroom/code.roundWords", laid_mailroom_code_roundWords), ("mailroom/cert.tags", laid_mailroom_cert_tags), ("unicode/utf8.first", laid_unicode_utf8_first)], narrowed := true }
def TlsaMoreUptoSaid : Prop := tlsaMoreUptoRow.holds Tryz.pinned (OpenSpec.upto tlsaMoreSpec)

end Rows
end Go.Proofs.YtnaoandleelbkaaGreatDoor
