package text

import (
	"slices"
	"strings"

	"caisson/api"
)

// Params is what is agreed on: digests; how many bytes of data the initiator (MostOut) and the target take in a letter, an R2T, unasked; whether all data must be asked for, may come with a command; what session; the names.
type Params struct {
	HeadSum   bool
	DataSum   bool
	MostOut   int
	MostIn    int
	Burst     int
	First     int
	Asked     bool
	Immediate bool
	Discovery bool
	Initiator string
	Target    string
}

// Words that are offered and answered.
const (
	yes           = "Yes"
	no            = "No"
	normal        = "Normal"
	discovery     = "Discovery"
	none          = "None"
	crc           = "CRC32C"
	reject        = "Reject"
	notUnderstood = "NotUnderstood"
)

// The keys whose answer is not always the same.
const (
	initiatorName  = "InitiatorName"
	targetName     = "TargetName"
	sessionType    = "SessionType"
	initiatorAlias = "InitiatorAlias"
	authMethod     = "AuthMethod"
	headerDigest   = "HeaderDigest"
	dataDigest     = "DataDigest"
	maxRecv        = "MaxRecvDataSegmentLength"
	maxBurst       = "MaxBurstLength"
	firstBurst     = "FirstBurstLength"
	initialR2T     = "InitialR2T"
	immediateData  = "ImmediateData"
	timeToWait     = "DefaultTime2Wait"
)

// What a value must be.
const (
	anything = iota
	something
	list
	session
	choice // Yes or No
	number
)

// rule is what a key's value must be (of a number, from least to most), and the answer, if it is always the same.
type rule struct {
	form        int
	least, most int
	answer      string
}

const (
	mostOut   = 65536
	leastWait = 2
)

// Default is what holds at first.
func Default() Params {
	return Params{MostOut: 8192, MostIn: 8192, Burst: 262144, First: 65536, Asked: true, Immediate: true}
}

// Talk is the target's answers to an initiator's pairs, and what is agreed on then.
func Talk(p Params, l []Pair) ([]Pair, Params, api.Errno) {
	now := p
	var answers []Pair
	for _, x := range l {
		r, there := ruleOf(x.Key)
		if !there {
			answers = append(answers, Pair{Key: x.Key, Val: notUnderstood})
			continue
		}
		if !r.takes(x.Val) {
			return nil, p, api.ErrArg
		}
		if val, told := now.agree(r, x); told {
			answers = append(answers, Pair{Key: x.Key, Val: val})
		}
	}
	now.First = min(now.First, now.Burst)
	return answers, now, api.OK
}

// ruleOf is the rule of a key, if there is one.
func ruleOf(key string) (rule, bool) {
	switch key {
	case initiatorName, targetName:
		return rule{form: something}, true
	case sessionType:
		return rule{form: session}, true
	case initiatorAlias:
		return rule{form: anything}, true
	case authMethod, headerDigest, dataDigest:
		return rule{form: list}, true
	case maxRecv, maxBurst, firstBurst:
		return rule{form: number, least: 512, most: mostNumber}, true
	case initialR2T, immediateData:
		return rule{form: choice}, true
	case "MaxConnections", "MaxOutstandingR2T":
		return rule{form: number, least: 1, most: 65535, answer: "1"}, true
	case "ErrorRecoveryLevel":
		return rule{form: number, least: 0, most: 2, answer: "0"}, true
	case timeToWait:
		return rule{form: number, least: 0, most: 3600}, true
	case "DefaultTime2Retain":
		return rule{form: number, least: 0, most: 3600, answer: "0"}, true
	case "DataPDUInOrder", "DataSequenceInOrder":
		return rule{form: choice, answer: yes}, true
	case "IFMarker", "OFMarker":
		return rule{form: choice, answer: no}, true
	}
	return rule{}, false
}

// takes tells whether val is what the key's value must be. Whatever it is, it is a list of words with commas between them.
func (r rule) takes(val string) bool {
	switch r.form {
	case something:
		return val != ""
	case session:
		return val == normal || val == discovery
	case choice:
		return val == yes || val == no
	case number:
		n, e := Number(val)
		return e == api.OK && n >= r.least && n <= r.most
	}
	return true
}

// agree is the answer to a pair that the rule of its key takes, and whether there is one; p is what holds then.
func (p *Params) agree(r rule, x Pair) (string, bool) {
	val := x.Val
	n, _ := Number(val) // it is asked for where the rule takes numbers alone
	switch x.Key {
	case initiatorName:
		p.Initiator = val
	case targetName:
		p.Target = val
	case sessionType:
		p.Discovery = val == discovery
	case initiatorAlias: // it is for people
	case maxRecv:
		p.MostOut = min(n, mostOut)
	case authMethod:
		return firstOf(val, none), true
	case headerDigest:
		return digest(val, &p.HeadSum), true
	case dataDigest:
		return digest(val, &p.DataSum), true
	case maxBurst:
		p.Burst = min(n, p.Burst)
		return Digits(p.Burst), true
	case firstBurst:
		p.First = min(n, p.First)
		return Digits(p.First), true
	case initialR2T:
		p.Asked = p.Asked || val == yes
		return yesOrNo(p.Asked), true
	case immediateData:
		p.Immediate = p.Immediate && val == yes
		return yesOrNo(p.Immediate), true
	case timeToWait:
		return Digits(max(n, leastWait)), true
	default:
		return r.answer, true
	}
	return "", false
}

// digest is the answer to a list of digests; sum stays what it is, if there is none of them.
func digest(words string, sum *bool) string {
	answer := firstOf(words, none, crc)
	if answer != reject {
		*sum = answer == crc
	}
	return answer
}

// firstOf is the first word of a list that is one of those that are known.
func firstOf(words string, known ...string) string {
	for more := true; more; {
		var word string
		word, words, more = strings.Cut(words, ",")
		if slices.Contains(known, word) {
			return word
		}
	}
	return reject
}

func yesOrNo(b bool) string {
	if b {
		return yes
	}
	return no
}
